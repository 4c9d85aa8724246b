package seal_test

import (
	"bytes"
	"crypto/sha256"
	"encoding/binary"
	"math"
	"math/rand"
	"reflect"
	"testing"

	"assent/api"
	"assent/digest"
	"assent/seal"
)

// byHand is the seal of an address and a message, reckoned by another hand.
func byHand(a api.Addr, msg string) (s api.Seal) {
	sum := sha256.Sum256(append(binary.BigEndian.AppendUint64(nil, uint64(a)), msg...))
	copy(s[:], sum[:])
	return s
}

func enter(t *testing.T, r *seal.Registry, a api.Addr) *seal.Signer {
	t.Helper()
	s, e := r.Enter(a)
	if s == nil || e != api.OK {
		t.Fatalf("S2: Enter(%d): %v, error %d", a, s, e)
	}
	return s
}

// sign signs, and holds the answer against the seal by hand.
func sign(t *testing.T, s *seal.Signer, msg string) api.Seal {
	t.Helper()
	x, e := s.Sign([]byte(msg))
	if e != api.OK || x != byHand(s.Addr(), msg) {
		t.Fatalf("S4: Sign of %d bytes by %d: %x, error %d", len(msg), s.Addr(), x, e)
	}
	return x
}

func wantCheck(t *testing.T, what string, r *seal.Registry, a api.Addr, msg string, s api.Seal, want bool) {
	t.Helper()
	if got := r.Check(a, []byte(msg), s); got != want {
		t.Errorf("%s: Check(%d, %.20q, %x) is %v", what, a, msg, s, got)
	}
}

func wantCount(t *testing.T, what string, r *seal.Registry, want int) {
	t.Helper()
	if got := r.Count(); got != want {
		t.Errorf("%s: Count is %d, want %d", what, got, want)
	}
}

func wantSigned(t *testing.T, what string, r *seal.Registry, a api.Addr, want ...string) {
	t.Helper()
	got := r.Signed(a)
	if len(got) != len(want) {
		t.Fatalf("%s: Signed(%d) has %d messages, want %d", what, a, len(got), len(want))
	}
	for k := range want {
		if string(got[k]) != want[k] {
			t.Errorf("%s: Signed(%d)[%d] is %.20q, want %.20q", what, a, k, got[k], want[k])
		}
	}
}

func TestNewIsEmpty(t *testing.T) {
	r := seal.New()
	if r == nil {
		t.Fatal("S1: New is nil")
	}
	wantCount(t, "S1", r, 0)
	for _, a := range []api.Addr{0, 1, 7, math.MaxUint64} {
		if r.Known(a) {
			t.Errorf("S1: %d is known", a)
		}
		wantSigned(t, "S1", r, a)
		wantCheck(t, "S1", r, a, "", byHand(a, ""), false)
	}
}

func TestEnter(t *testing.T) {
	r := seal.New()
	for _, a := range []api.Addr{7, 1, math.MaxUint64, 1 << 63, 1 << 32} {
		if r.Known(a) {
			t.Errorf("S6: %d is known ahead of its Enter", a)
		}
		s := enter(t, r, a)
		if s.Addr() != a {
			t.Errorf("S3: Addr is %d, want %d", s.Addr(), a)
		}
		if !r.Known(a) {
			t.Errorf("S6: %d is not known behind its Enter", a)
		}
		wantSigned(t, "S2: entered, nothing signed", r, a)
	}
	wantCount(t, "S2: entered, nothing signed", r, 0)
	if r.Known(8) || r.Known(0) {
		t.Error("S6: one that was not entered is known")
	}
}

func TestEnterIsRefused(t *testing.T) {
	r := seal.New()
	wantRefused := func(a api.Addr, want api.Errno) {
		t.Helper()
		if s, e := r.Enter(a); s != nil || e != want {
			t.Errorf("S2: Enter(%d): %v, error %d, want %d", a, s, e, want)
		}
	}
	wantRefused(0, api.ErrArg)
	s := enter(t, r, 7)
	wantRefused(7, api.ErrTwice)
	wantRefused(0, api.ErrArg)
	sign(t, s, "ab")
	wantRefused(7, api.ErrTwice)
	wantRefused(7, api.ErrTwice)
	if s.Addr() != 7 || !r.Known(7) || r.Known(0) {
		t.Error("G2: a refused Enter has changed something")
	}
	wantSigned(t, "G2: behind refused Enters", r, 7, "ab")
	sign(t, s, "cd")
	wantSigned(t, "P3.2: the first signer goes on", r, 7, "ab", "cd")
}

func TestSignAndCheck(t *testing.T) {
	r := seal.New()
	s := enter(t, r, 7)
	enter(t, r, 8)
	x := sign(t, s, "ab")
	sum := digest.Sum([]byte{0, 0, 0, 0, 0, 0, 0, 7, 0x61, 0x62})
	if !bytes.Equal(x[:], sum[:16]) {
		t.Errorf("S4: the seal of 7 and ab is %x", x)
	}
	wantCheck(t, "S5", r, 7, "ab", x, true)
	wantCheck(t, "S5: another address", r, 8, "ab", x, false)
	wantCheck(t, "S5: another address, its own seal", r, 8, "ab", byHand(8, "ab"), false)
	wantCheck(t, "S5: nobody", r, 0, "ab", x, false)
	for _, msg := range []string{"abc", "a", "", "ac", "Ab", "ab\x00", "\x00ab", "\x07ab"} {
		wantCheck(t, "S5: another message", r, 7, msg, x, false)
		wantCheck(t, "S5: another message, its own seal", r, 7, msg, byHand(7, msg), false)
	}
	for k := range x {
		y := x
		y[k]++
		wantCheck(t, "S5: another seal", r, 7, "ab", y, false)
	}
	wantCheck(t, "S5: no seal", r, 7, "ab", api.Seal{}, false)
	wantCheck(t, "S5: still", r, 7, "ab", x, true)
	wantCount(t, "S5: Check makes no record", r, 1)
}

// TestSealOfEachByte: every byte of the address stands at its place in what is digested.
func TestSealOfEachByte(t *testing.T) {
	r := seal.New()
	for _, a := range []api.Addr{0x0102030405060708, 1, 1 << 8, 1 << 16, 1 << 24, 1 << 32, 1 << 40, 1 << 48, 1 << 56, 1 << 63, math.MaxUint64} {
		s := enter(t, r, a)
		for _, msg := range []string{"", "x", "\x00\xff", string(bytes.Repeat([]byte{0xa5}, 1000))} {
			wantCheck(t, "S5", r, a, msg, sign(t, s, msg), true)
		}
	}
}

func TestSignAgain(t *testing.T) {
	r := seal.New()
	s := enter(t, r, 7)
	x := sign(t, s, "ab")
	if sign(t, s, "ab") != x {
		t.Error("S4: signed again: another seal")
	}
	wantCount(t, "S4: signed again", r, 1)
	y, e := s.Sign(nil)
	if e != api.OK || y != byHand(7, "") {
		t.Errorf("S4: Sign(nil): %x, error %d", y, e)
	}
	wantCount(t, "S4: of nil", r, 2)
	sign(t, s, "")
	wantCount(t, "S4: empty is as nil", r, 2)
	wantSigned(t, "S6", r, 7, "ab", "")
	if !r.Check(7, nil, y) || !r.Check(7, []byte{}, y) {
		t.Error("S5: the empty message")
	}
	sign(t, s, "ab")
	sign(t, s, "aa")
	sign(t, s, "")
	wantSigned(t, "S6: the order of the first signing", r, 7, "ab", "", "aa")
}

// TestOneMessageOfTwo: one message, signed by two, is two records.
func TestOneMessageOfTwo(t *testing.T) {
	r := seal.New()
	s, u := enter(t, r, 7), enter(t, r, 8)
	x := sign(t, s, "ab")
	y := sign(t, u, "ab")
	wantCount(t, "S6", r, 2)
	wantSigned(t, "S6", r, 7, "ab")
	wantSigned(t, "S6", r, 8, "ab")
	wantCheck(t, "P3.1", r, 7, "ab", y, false)
	wantCheck(t, "P3.1", r, 8, "ab", x, false)
	wantCheck(t, "P3.1", r, 8, "ab", y, true)
}

// TestNumberAndTextApart: bytes that could stand in the address or in the message make no two records one.
func TestNumberAndTextApart(t *testing.T) {
	r := seal.New()
	s := enter(t, r, 0x61)
	sign(t, s, "b")
	enter(t, r, 0x6162)
	wantCheck(t, "P3.1", r, 0x6162, "", byHand(0x6162, ""), false)
	wantCheck(t, "P3.1", r, 0x61, "\x00\x00\x00\x00\x00\x00\x00\x61b", byHand(0x61, "\x00\x00\x00\x00\x00\x00\x00\x61b"), false)
	wantCount(t, "P3.1", r, 1)
}

func TestReckonedIsNotSigned(t *testing.T) {
	r := seal.New()
	s := enter(t, r, 9)
	wantCheck(t, "P3.1: reckoned, not signed", r, 9, "x", byHand(9, "x"), false)
	sign(t, s, "x")
	wantCheck(t, "P3.1: signed", r, 9, "x", byHand(9, "x"), true)
	wantCheck(t, "P3.1: of one that is not entered", r, 10, "x", byHand(10, "x"), false)
}

func TestTwoRegistries(t *testing.T) {
	r, q := seal.New(), seal.New()
	s := enter(t, r, 7)
	if q.Known(7) {
		t.Error("G4: entered in both")
	}
	u := enter(t, q, 7)
	x := sign(t, s, "ab")
	wantCheck(t, "P3.1: signed in the other", q, 7, "ab", x, false)
	if sign(t, u, "ab") != x {
		t.Error("S4: one address and message, two seals")
	}
	sign(t, u, "zz")
	wantCheck(t, "P3.1: signed in the other", r, 7, "zz", byHand(7, "zz"), false)
	wantCheck(t, "P3.1", q, 7, "zz", byHand(7, "zz"), true)
	wantCount(t, "G4", r, 1)
	wantCount(t, "G4", q, 2)
	wantSigned(t, "G4", r, 7, "ab")
	wantSigned(t, "G4", q, 7, "ab", "zz")
}

func TestLongMessages(t *testing.T) {
	r := seal.New()
	s := enter(t, r, 7)
	for _, n := range []int{api.MaxItem + 1, api.MaxItem + 2, 2 * api.MaxItem} {
		long := make([]byte, n)
		x, e := s.Sign(long)
		if e != api.ErrBig || x != (api.Seal{}) {
			t.Errorf("S4: of %d bytes: %x, error %d", n, x, e)
		}
		wantCheck(t, "S4: too long", r, 7, string(long), byHand(7, string(long)), false)
	}
	wantCount(t, "S4: too long", r, 0)
	wantSigned(t, "S4: too long", r, 7)
	longest := string(bytes.Repeat([]byte("m"), api.MaxItem))
	x := sign(t, s, longest)
	wantCount(t, "S4: as long as may be", r, 1)
	wantSigned(t, "S4: as long as may be", r, 7, longest)
	wantCheck(t, "S4: as long as may be", r, 7, longest, x, true)
	wantCheck(t, "S4: one byte more", r, 7, longest+"m", x, false)
	wantCheck(t, "S4: one byte less", r, 7, longest[1:], x, false)
}

func wantNoRegistry(t *testing.T, what string, r *seal.Registry) {
	t.Helper()
	for _, a := range []api.Addr{0, 7} {
		if s, e := r.Enter(a); s != nil || e != api.ErrNil {
			t.Errorf("%s: Enter(%d): %v, error %d", what, a, s, e)
		}
		if r.Known(a) {
			t.Errorf("%s: knows %d", what, a)
		}
		wantSigned(t, what, r, a)
		wantCheck(t, what, r, a, "", byHand(a, ""), false)
		wantCheck(t, what, r, a, "ab", byHand(a, "ab"), false)
	}
	wantCount(t, what, r, 0)
}

func wantNoSigner(t *testing.T, what string, s *seal.Signer) {
	t.Helper()
	for _, msg := range [][]byte{nil, []byte("ab"), make([]byte, api.MaxItem+1)} {
		if x, e := s.Sign(msg); x != (api.Seal{}) || e != api.ErrNil {
			t.Errorf("%s: Sign of %d bytes: %x, error %d", what, len(msg), x, e)
		}
	}
	if s.Addr() != 0 {
		t.Errorf("%s: Addr is %d", what, s.Addr())
	}
}

func TestRegistriesThatNewDidNotMake(t *testing.T) {
	wantNoRegistry(t, "G1: nil", nil)
	wantNoRegistry(t, "G1: by hand", &seal.Registry{})
	wantNoRegistry(t, "G1: by new", new(seal.Registry))
}

// copied is made by reflection, as vet rightly warns of a copied lock.
func copied(r *seal.Registry) *seal.Registry {
	c := reflect.New(reflect.TypeOf(r).Elem())
	c.Elem().Set(reflect.ValueOf(r).Elem())
	return c.Interface().(*seal.Registry)
}

func TestCopiedRegistry(t *testing.T) {
	r := seal.New()
	s := enter(t, r, 7)
	sign(t, s, "ab")
	wantNoRegistry(t, "G1: a copy", copied(r))
	wantCheck(t, "G1: behind a copy", r, 7, "ab", byHand(7, "ab"), true)
	wantCount(t, "G1: behind a copy", r, 1)
}

// TestWipedRegistry: the signers of a registry that is written over have no book any more, and don't panic.
func TestWipedRegistry(t *testing.T) {
	r := seal.New()
	s := enter(t, r, 7)
	sign(t, s, "ab")
	*r = seal.Registry{}
	wantNoRegistry(t, "G1: wiped", r)
	if x, e := s.Sign([]byte("ab")); x != (api.Seal{}) || e != api.ErrNil {
		t.Errorf("G1: Sign for a wiped registry: %x, error %d", x, e)
	}
}

func TestSignersThatEnterDidNotHandOut(t *testing.T) {
	wantNoSigner(t, "G1: nil", nil)
	wantNoSigner(t, "G1: by hand", &seal.Signer{})
	wantNoSigner(t, "G1: by new", new(seal.Signer))
	r := seal.New()
	s := enter(t, r, 7)
	double := *s
	wantNoSigner(t, "S4: a copy", &double)
	wantCount(t, "S4: a copy", r, 0)
	sign(t, s, "ab")
	wantCount(t, "S4: behind a copy", r, 1)
	*s = seal.Signer{}
	wantNoSigner(t, "G1: wiped", s)
	wantSigned(t, "P3.4: the signer is wiped", r, 7, "ab")
}

func TestWhoseTheBytesAre(t *testing.T) {
	r := seal.New()
	s := enter(t, r, 7)
	room := []byte("..ab..")
	x, _ := s.Sign(room[2:4])
	if string(room) != "..ab.." {
		t.Error("G3: Sign has changed its message, or the room behind it")
	}
	copy(room, "zzzzzz")
	wantCheck(t, "P3.5: written over behind Sign", r, 7, "ab", x, true)
	wantCheck(t, "P3.5: written over behind Sign", r, 7, "zz", byHand(7, "zz"), false)
	wantSigned(t, "P3.5: written over behind Sign", r, 7, "ab")

	asked := []byte("..ab..")
	if !r.Check(7, asked[2:4], x) || string(asked) != "..ab.." {
		t.Error("G3: Check has changed its message, or the room behind it")
	}
	copy(asked, "yyyyyy")
	wantCheck(t, "P3.5: written over behind Check", r, 7, "ab", x, true)
	wantCheck(t, "P3.5: written over behind Check", r, 7, "yy", byHand(7, "yy"), false)

	sign(t, s, "cd")
	sign(t, s, "")
	list, other := r.Signed(7), r.Signed(7)
	for k := range list {
		whole := list[k][:cap(list[k])]
		for i := range whole {
			whole[i] = '#'
		}
		_ = append(list[k], '!')
	}
	list[2] = []byte("gone")
	_ = append(list, []byte("more"))
	for k, want := range []string{"ab", "cd", ""} {
		if string(other[k]) != want {
			t.Errorf("G3: two answers of Signed share memory: %q", other[k])
		}
	}
	wantSigned(t, "P3.5: a list is written over", r, 7, "ab", "cd", "")
	wantCheck(t, "P3.5: a list is written over", r, 7, "ab", x, true)
	wantCheck(t, "P3.5: a list is written over", r, 7, "##", byHand(7, "##"), false)

	// the lists of one answer have nothing in common either
	one := r.Signed(7)
	first := one[0][:cap(one[0])]
	for i := range first {
		first[i] = '#'
	}
	if string(one[1]) != "cd" || len(one[2]) != 0 {
		t.Error("G3: two messages of one answer share memory")
	}
}

// model is a registry in the plainest way: what was entered, what was signed, in its order.
type model struct {
	signers map[api.Addr]*seal.Signer
	signed  map[api.Addr][]string
}

func (m *model) has(a api.Addr, msg string) bool {
	for _, one := range m.signed[a] {
		if one == msg {
			return true
		}
	}
	return false
}

func (m *model) count() (n int) {
	for _, list := range m.signed {
		n += len(list)
	}
	return n
}

// step makes a call, and holds its answer against the model's.
func (m *model) step(t *testing.T, r *seal.Registry, random *rand.Rand) {
	t.Helper()
	a := api.Addr(random.Intn(6))
	msg := string([]byte("abcd")[:random.Intn(5)])
	if random.Intn(3) == 0 {
		msg = string(rune('a' + random.Intn(26)))
	}
	switch random.Intn(4) {
	case 0:
		want := api.OK
		if a == 0 {
			want = api.ErrArg
		} else if m.signers[a] != nil {
			want = api.ErrTwice
		}
		s, e := r.Enter(a)
		if e != want || (s != nil) != (want == api.OK) {
			t.Fatalf("P3.2: Enter(%d): %v, error %d, want %d", a, s, e, want)
		}
		if s != nil {
			m.signers[a] = s
		}
	case 1, 2:
		if s := m.signers[a]; s != nil {
			sign(t, s, msg)
			if !m.has(a, msg) {
				m.signed[a] = append(m.signed[a], msg)
			}
		}
	default:
		wantCheck(t, "P3.1", r, a, msg, byHand(a, msg), m.has(a, msg))
		var made api.Seal
		random.Read(made[:])
		wantCheck(t, "P3.1: whatever bytes", r, a, msg, made, false)
	}
	if r.Known(a) != (m.signers[a] != nil) {
		t.Fatalf("S6: Known(%d) is %v", a, r.Known(a))
	}
	wantCount(t, "P3.3", r, m.count())
	wantSigned(t, "P3.3", r, a, m.signed[a]...)
}

// TestAnyCalls: by the model, which takes nothing back and holds nothing twice, P3.1 to P3.4 hold; two registries take turns, so neither tells of the other.
func TestAnyCalls(t *testing.T) {
	random := rand.New(rand.NewSource(3))
	for range 50 {
		books := [2]*seal.Registry{seal.New(), seal.New()}
		var models [2]*model
		for k := range models {
			models[k] = &model{map[api.Addr]*seal.Signer{}, map[api.Addr][]string{}}
		}
		for range 200 {
			k := random.Intn(2)
			models[k].step(t, books[k], random)
		}
		for k, m := range models {
			for a, list := range m.signed {
				for _, msg := range list {
					wantCheck(t, "P3.4", books[k], a, msg, byHand(a, msg), true)
				}
			}
		}
	}
}
