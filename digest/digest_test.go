package digest_test

import (
	"bytes"
	"crypto/sha256"
	"encoding/hex"
	"math/rand"
	"slices"
	"testing"

	"assent/api"
	"assent/digest"
)

func told(h api.Hash) string { return hex.EncodeToString(h[:]) }

func wantHash(t *testing.T, what string, got api.Hash, want string) {
	t.Helper()
	if told(got) != want {
		t.Errorf("%s: %s, want %s", what, told(got), want)
	}
}

func wantErr(t *testing.T, what string, got, want api.Errno) {
	t.Helper()
	if got != want {
		t.Errorf("%s: error %d, want %d", what, got, want)
	}
}

// reference is the digest by another hand.
func reference(b []byte) api.Hash { return sha256.Sum256(b) }

// rising are n bytes of which no two neighbours are alike, so that a byte at the wrong place shows.
func rising(n int) []byte {
	b := make([]byte, n)
	for k := range b {
		b[k] = byte(k*7 + k>>8 + 1)
	}
	return b
}

func TestSumExamples(t *testing.T) {
	for _, c := range []struct {
		what, want string
		b          []byte
	}{
		{"P2.1 of nil", "e3b0c44298fc1c149afbf4c8996fb92427ae41e4649b934ca495991b7852b855", nil},
		{"P2.1 of no bytes", "e3b0c44298fc1c149afbf4c8996fb92427ae41e4649b934ca495991b7852b855", []byte{}},
		{"P2.1 of abc", "ba7816bf8f01cfea414140de5dae2223b00361a396177a9cb410ff61f20015ad", []byte("abc")},
		{"P2.1 of two blocks", "248d6a61d20638b8e5c026930c3e6039a33ce45964ff2167f6ecedd419db06c1", []byte("abcdbcdecdefdefgefghfghighijhijkijkljklmklmnlmnomnopnopq")},
		{"P2.1 of a million a", "cdc76e5c9914fb9281a1c7e284d73e67f1809a48a497200e046d39ccc7112cd0", bytes.Repeat([]byte("a"), 1000000)},
	} {
		wantHash(t, c.what, digest.Sum(c.b), c.want)
	}
}

func TestSumOfEachLength(t *testing.T) {
	for n := range 400 {
		b := rising(n)
		if digest.Sum(b) != reference(b) {
			t.Fatalf("P2.1: another digest of %d bytes", n)
		}
	}
}

// TestSumOfLongText: from 2^29 bytes on the number of bits no longer goes into 32 bits.
func TestSumOfLongText(t *testing.T) {
	piece := rising(1 << 20)
	h, other := digest.New(), sha256.New()
	for range 513 {
		h.Write(piece)
		other.Write(piece)
	}
	if got := h.Sum(); !bytes.Equal(got[:], other.Sum(nil)) {
		t.Error("P2.1: another digest of a long text")
	}
}

func TestSumOfAnything(t *testing.T) {
	r := rand.New(rand.NewSource(21))
	for range 500 {
		b := make([]byte, r.Intn(2000))
		r.Read(b)
		if digest.Sum(b) != reference(b) {
			t.Fatalf("P2.1: another digest of %x", b)
		}
	}
}

func TestHasherGoesOn(t *testing.T) {
	h := digest.New()
	if h.Sum() != reference(nil) {
		t.Error("P2.2: New has taken something")
	}
	var all []byte
	for n := range 140 {
		piece := rising(n)
		all = append(all, piece...)
		h.Write(piece)
		if h.Sum() != reference(all) || h.Sum() != reference(all) {
			t.Fatalf("P2.2: Sum behind a piece of %d bytes", n)
		}
	}
	h.Write(nil)
	h.Write([]byte{})
	if h.Sum() != reference(all) {
		t.Error("P2.2: a Write of nothing changes something")
	}
}

func TestHasherOrder(t *testing.T) {
	h, g := digest.New(), digest.New()
	h.Write([]byte("a"))
	h.Write([]byte("b"))
	g.Write([]byte("b"))
	g.Write([]byte("a"))
	if h.Sum() != reference([]byte("ab")) || g.Sum() != reference([]byte("ba")) {
		t.Error("P2.2: not in the order of the Writes")
	}
}

func TestCopyGoesOnApart(t *testing.T) {
	for _, n := range []int{0, 1, 55, 56, 63, 64, 65, 100, 128} {
		head := rising(n)
		h := digest.New()
		h.Write(head)
		g := h.Copy()
		if g == h || g.Sum() != reference(head) {
			t.Fatalf("P2.2: a copy behind %d bytes has not taken the same", n)
		}
		h.Write([]byte("left"))
		g.Write([]byte("the right one"))
		f := g.Copy()
		f.Write(head)
		if h.Sum() != reference(append(slices.Clone(head), "left"...)) {
			t.Errorf("P2.2: behind %d bytes the copy's Write shows in the first", n)
		}
		if g.Sum() != reference(append(slices.Clone(head), "the right one"...)) {
			t.Errorf("P2.2: behind %d bytes the copy does not go on by itself", n)
		}
		if f.Sum() != reference(slices.Concat(head, []byte("the right one"), head)) {
			t.Errorf("P2.2: a copy's copy behind %d bytes", n)
		}
	}
}

func TestHasherThatNoCallMade(t *testing.T) {
	var none *digest.Hasher
	made := digest.New()
	made.Write([]byte("a"))
	bent := *made
	wiped := digest.New()
	*wiped = digest.Hasher{}
	for what, h := range map[string]*digest.Hasher{"nil": none, "zero": {}, "a copy by value": &bent, "wiped": wiped} {
		h.Write([]byte("abc"))
		if h.Sum() != (api.Hash{}) {
			t.Errorf("P2.2: %s: Sum is not the zero Hash", what)
		}
		if h.Copy() != nil {
			t.Errorf("P2.2: %s: Copy is not nil", what)
		}
	}
	if made.Sum() != reference([]byte("a")) {
		t.Error("P2.2: what was done to a copy by value shows in the Hasher")
	}
}

func TestHashersHaveNothingInCommon(t *testing.T) {
	h := digest.New()
	h.Write(rising(70))
	g := digest.New()
	if g.Sum() != reference(nil) {
		t.Error("G4: a new Hasher knows of an older one")
	}
	g.Write([]byte("b"))
	digest.Sum(rising(30))
	if h.Sum() != reference(rising(70)) || g.Sum() != reference([]byte("b")) {
		t.Error("G4: two Hashers have something in common")
	}
}

func TestWriteKeepsNothing(t *testing.T) {
	room := rising(200)
	before := slices.Clone(room)
	h := digest.New()
	h.Write(room[:70])
	if digest.Sum(room[:33]) != reference(before[:33]) || !bytes.Equal(room, before) {
		t.Fatal("G3: what is handed in is changed")
	}
	clear(room)
	if h.Sum() != reference(before[:70]) {
		t.Error("G3: what is handed in is kept")
	}
}

func TestPieces(t *testing.T) {
	r := rand.New(rand.NewSource(28))
	for range 400 {
		whole := make([]byte, r.Intn(700))
		r.Read(whole)
		h := digest.New()
		for rest := whole; len(rest) > 0; {
			n := r.Intn(min(len(rest), 150) + 1)
			h.Write(rest[:n])
			rest = rest[n:]
			switch r.Intn(4) {
			case 0:
				h = h.Copy()
			case 1:
				h.Copy().Write([]byte("aside"))
			case 2:
				h.Sum()
			}
		}
		if h.Sum() != digest.Sum(whole) {
			t.Fatalf("P2.8: pieces of %x give another digest", whole)
		}
	}
}

func TestEachCutInTwoAndThree(t *testing.T) {
	whole := rising(150)
	want := digest.Sum(whole)
	for i := range len(whole) + 1 {
		for j := i; j <= len(whole); j++ {
			h := digest.New()
			h.Write(whole[:i])
			h.Write(whole[i:j])
			h.Write(whole[j:])
			if h.Sum() != want {
				t.Fatalf("P2.8: cut at %d and %d", i, j)
			}
		}
	}
}

func TestLeafAndInner(t *testing.T) {
	wantHash(t, "P2.3 Leaf of nil", digest.Leaf(nil), "6e340b9cffb37a989ca544e6bb780a2c78901d3fb33738768511a30617afa01d")
	wantHash(t, "P2.3 Leaf of no bytes", digest.Leaf([]byte{}), "6e340b9cffb37a989ca544e6bb780a2c78901d3fb33738768511a30617afa01d")
	a, b := digest.Leaf([]byte("a")), digest.Leaf([]byte("b"))
	wantHash(t, "P2.3 Leaf of a", a, "022a6979e6dab7aa5ae4c3e5e45f7e977112a7e63593820dbec1ec738a24f93c")
	wantHash(t, "P2.3 Inner", digest.Inner(a, b), "b137985ff484fb600db93107c77b0365c80d78f5b429ded0fd97361d077999eb")
	for _, n := range []int{1, 54, 55, 62, 63, 64, 127, api.MaxItem, api.MaxItem + 1} {
		item := rising(n)
		if digest.Leaf(item) != reference(append([]byte{0}, item...)) {
			t.Errorf("P2.3: Leaf of %d bytes", n)
		}
	}
	r := rand.New(rand.NewSource(23))
	for range 100 {
		var x, y api.Hash
		r.Read(x[:])
		r.Read(y[:])
		if digest.Inner(x, y) != reference(slices.Concat([]byte{1}, x[:], y[:])) {
			t.Errorf("P2.3: Inner of %x, %x", x, y)
		}
	}
	if digest.Inner(api.Hash{}, api.Hash{}) != reference(append([]byte{1}, make([]byte, 64)...)) {
		t.Error("P2.3: Inner of zero Hashes")
	}
}
