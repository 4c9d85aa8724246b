package client_test

import (
	"fmt"
	"math"
	"math/rand"
	"reflect"
	"runtime"
	"slices"
	"testing"
	"time"

	"assent/api"
	"assent/client"
	"assent/light"
	"assent/seal"
)

// edges are numbers at which something might wrap.
var edges = []uint64{0, 1, 2, 3, 10, 30, 64, 100, 1000, api.MaxRound, api.MaxTicks, api.MaxTicks + 1, api.MaxHeight - 1, api.MaxHeight, api.MaxHeight + 1, api.MaxTime, api.MaxTime + 1, api.MaxSupply, api.MaxSupply + 1, math.MaxInt64, math.MaxInt64 + 1, math.MaxUint64 - 1, math.MaxUint64}

// fill lays any numbers into all that a value has, and lists of a few elements.
func fill(r *rand.Rand, v reflect.Value) {
	switch v.Kind() {
	case reflect.Struct:
		for k := range v.NumField() {
			fill(r, v.Field(k))
		}
	case reflect.Array:
		v.Index(r.Intn(v.Len())).SetUint(uint64(r.Intn(3)))
	case reflect.Slice:
		v.Set(reflect.MakeSlice(v.Type(), r.Intn(4), 4))
		for k := range v.Len() {
			fill(r, v.Index(k))
		}
	case reflect.Uint64:
		v.SetUint(edges[r.Intn(len(edges))])
	case reflect.Int, reflect.Int64:
		v.SetInt(int64(edges[r.Intn(len(edges))]))
	case reflect.Bool:
		v.SetBool(r.Intn(2) == 0)
	case reflect.String:
		v.SetString([]string{"", name, "seventeen letters"}[r.Intn(3)])
	default:
		panic(v.Kind())
	}
}

func anything[T any](r *rand.Rand) (x T) {
	fill(r, reflect.ValueOf(&x).Elem())
	return x
}

// bend lays something else into one part of a value, which may be a whole list.
func bend[T any](r *rand.Rand, x *T) {
	v := reflect.ValueOf(x).Elem()
	for {
		switch {
		case v.Kind() == reflect.Struct:
			v = v.Field(r.Intn(v.NumField()))
			continue
		case v.Kind() == reflect.Slice && v.Len() > 0 && r.Intn(4) > 0:
			v = v.Index(r.Intn(v.Len()))
			continue
		case v.Kind() == reflect.Int && r.Intn(2) == 0:
			v.SetInt(v.Int() + int64(r.Intn(3)) - 1)
			return
		case v.Kind() == reflect.Uint64 && r.Intn(2) == 0:
			v.SetUint(v.Uint() + uint64(r.Intn(3)) - 1)
			return
		}
		fill(r, v)
		return
	}
}

// copyOf is what an object holds in another place: no New made that.
func copyOf[T any](was *T) *T {
	c := reflect.New(reflect.TypeFor[T]())
	c.Elem().Set(reflect.ValueOf(was).Elem())
	return c.Interface().(*T)
}

// TestNotMade: a client that New did not make answers ErrNil, ahead of all else, asks nobody, and leaves the one that it was copied from.
func TestNotMade(t *testing.T) {
	w := examples(t)
	made := w.follower(15, 2)
	s := w.honest()
	for what, c := range map[string]*client.Client{"nil": nil, "zero": {}, "a copy": copyOf(made)} {
		for _, h := range []uint64{0, 1, 2, 3, math.MaxUint64} {
			for _, src := range []client.Source{s, nil} {
				is(t, "G1: "+what, c.Follow(src, h, 50), api.ErrNil)
				is(t, "G1: "+what, c.Follow(src, h, math.MaxUint64), api.ErrNil)
				wantNoAccount(t, "G1: "+what, c, src, h, 1, api.ErrNil)
				for _, at := range []int{math.MinInt, -1, 0, 1, 1000, math.MaxInt} {
					wantNoTx(t, "G1: "+what, c, src, h, at, api.ErrNil)
				}
			}
		}
		if c.Latest() != 0 {
			t.Errorf("S5: %s: the latest is %d", what, c.Latest())
		}
	}
	s.wantAsked(t, "G1")
	is(t, "G1: the clock of the one that was made is as it was", made.Follow(s, 3, 0), api.ErrAhead)
	w.wantTrusted("G1", made, 1, 2)
}

// TestNoRegistry: New of a registry that is none, whatever else is wrong; and asking enters nobody.
func TestNoRegistry(t *testing.T) {
	w := examples(t)
	count := w.r.Count()
	for what, r := range map[string]*seal.Registry{"nil": nil, "zero": {}, "a copy": copyOf(w.r)} {
		for _, first := range []api.LightBlock{w.chain[1], {}} {
			for _, now := range []uint64{15, math.MaxUint64} {
				c, e := client.New(params, name, r, first, now)
				is(t, "G1: a registry that is "+what, e, api.ErrNil)
				if c != nil {
					t.Errorf("G2: a client beside an error")
				}
			}
		}
	}
	w.wantTrusted("S2", w.follower(90, 9), 1, 3, 4, 5, 9)
	if w.r.Known(0) || w.r.Count() != count {
		t.Errorf("G3: the registry has changed")
	}
}

// TestRegistryGone: what was trusted stays so, and what stands under it is still shown; nothing more comes to be trusted.
func TestRegistryGone(t *testing.T) {
	w := examples(t)
	c := w.follower(30, 2, 3)
	*w.r = seal.Registry{}
	is(t, "S2", c.Follow(w.honest(), 4, 40), api.ErrNil)
	w.wantTrusted("P19.4", c, 1, 2, 3)
}

// void is a source whose methods can't be called on nil.
type void struct{ answers []int }

func (v *void) Light(uint64) (api.LightBlock, api.Errno) {
	return api.LightBlock{}, api.Errno(v.answers[0])
}
func (v *void) Account(uint64, api.Addr) (api.Witness, api.Errno) {
	return api.Witness{}, api.Errno(v.answers[0])
}
func (v void) Tx(uint64, int) (api.Tx, api.Proof, api.Errno) {
	return api.Tx{}, api.Proof{}, api.Errno(v.answers[0])
}

// TestSourcesPanic: a source is taken not to panic; one that does, among them a nil pointer in the interface, is taken for one that has nothing.
func TestSourcesPanic(t *testing.T) {
	w := examples(t)
	c := w.follower(30, 2, 3)
	sources := []client.Source{(*void)(nil), &void{}}
	for _, cause := range []any{"cause", 7, nil, error(nil), api.ErrLie} {
		s := w.honest()
		s.light = func(uint64) (api.LightBlock, api.Errno) { panic(cause) }
		s.account = func(uint64, api.Addr) (api.Witness, api.Errno) { panic(cause) }
		s.tx = func(uint64, int) (api.Tx, api.Proof, api.Errno) { panic(cause) }
		sources = append(sources, s)
	}
	for _, s := range sources {
		is(t, "G1", c.Follow(s, 4, 40), api.ErrNone)
		wantNoAccount(t, "G1", c, s, 2, 3, api.ErrNone)
		wantNoTx(t, "G1", c, s, 2, 0, api.ErrNone)
		w.wantTrusted("P19.4", c, 1, 2, 3)
	}
	is(t, "P19.4", c.Follow(w.honest(), 4, 40), api.OK)
}

// TestWhatever: parameters, names, blocks, witnesses, proofs and transactions of whatever content: New is light.New, and nothing that is not borne out is taken.
func TestWhatever(t *testing.T) {
	r := rand.New(rand.NewSource(193))
	w := examples(t)
	counts := map[api.Errno]int{}
	some := func() api.LightBlock {
		u := w.chain[1+r.Intn(9)]
		u.Cert.Marks, u.Council.Members = slices.Clone(u.Cert.Marks), slices.Clone(u.Council.Members)
		switch r.Intn(6) {
		case 0:
			return anything[api.LightBlock](r)
		case 1, 2, 3:
			bend(r, &u)
		}
		return u
	}
	s := &source{
		light:   func(uint64) (api.LightBlock, api.Errno) { return some(), api.OK },
		account: func(uint64, api.Addr) (api.Witness, api.Errno) { return anything[api.Witness](r), api.OK },
		tx: func(uint64, int) (api.Tx, api.Proof, api.Errno) {
			return anything[api.Tx](r), anything[api.Proof](r), api.OK
		},
	}
	for range 8000 {
		p, chain, first, now := params, name, some(), uint64(5+r.Intn(120))
		if r.Intn(4) == 0 {
			p, now = anything[api.Params](r), edges[r.Intn(len(edges))]
		}
		if r.Intn(16) == 0 {
			chain = anything[string](r)
		}
		c, e := client.New(p, chain, w.r, first, now)
		m, want := light.New(p, chain, w.r, first, now)
		if e != want || (c == nil) != (e != api.OK) || c.Latest() != m.Latest() {
			t.Fatalf("S1: %+v: error %d, want %d", first, e, want)
		}
		counts[e]++
		for range 3 {
			h, at := first.Header.Height+uint64(r.Intn(3))-1, r.Intn(1002)-1
			if r.Intn(3) == 0 {
				h, at = edges[r.Intn(len(edges))], int(edges[r.Intn(len(edges))])
			}
			counts[c.Follow(s, h, edges[r.Intn(len(edges))])]++
			_, there, e := c.Account(s, h, api.Addr(edges[r.Intn(len(edges))]))
			counts[e]++
			_, e2 := c.Tx(s, h, at)
			counts[e2]++
			if e == api.OK || there || e2 == api.OK {
				t.Fatalf("P19.1, P19.2: error %d, %v; error %d", e, there, e2)
			}
		}
	}
	for _, e := range []api.Errno{api.OK, api.ErrNil, api.ErrArg, api.ErrField, api.ErrHeight, api.ErrChain, api.ErrSeats, api.ErrCert, api.ErrSeal, api.ErrOld, api.ErrAhead, api.ErrNone, api.ErrLie} {
		if counts[e] == 0 {
			t.Errorf("error %d was never answered: %v", e, counts)
		}
	}
}

// roomed is a copy of a list with room behind it in which something stands.
func roomed[T any](list []T, behind T) []T {
	return append(slices.Clone(list), behind, behind)[:len(list)]
}

// spoil writes over a list and the room behind it.
func spoil[T any](list []T, with T) {
	list = list[:cap(list)]
	for k := range list {
		list[k] = with
	}
}

// sight is what a source has handed out: how it looks, with all that lies behind its lists, and how it is written over.
type sight struct {
	look  func() string
	spoil func()
}

func sightOfLight(u *api.LightBlock) sight {
	u.Cert.Marks = roomed(u.Cert.Marks, api.Mark{Index: 61})
	u.Council.Members = roomed(u.Council.Members, api.Member{Addr: 99, Power: 1})
	marks, members := u.Cert.Marks, u.Council.Members
	return sight{
		func() string { return fmt.Sprint(marks[:cap(marks)], members[:cap(members)]) },
		func() { spoil(marks, api.Mark{Index: 3, Time: 9}); spoil(members, api.Member{Addr: 7, Power: 9}) },
	}
}

func sightOfProof(p *api.Proof) sight {
	p.Aunts = roomed(p.Aunts, api.Hash{7})
	aunts := p.Aunts
	return sight{func() string { return fmt.Sprint(aunts[:cap(aunts)]) }, func() { spoil(aunts, api.Hash{8}) }}
}

func sightOfWitness(x *api.Witness) (all []sight) {
	x.Proofs = slices.Clone(x.Proofs)
	for k := range x.Proofs {
		all = append(all, sightOfProof(&x.Proofs[k]))
	}
	x.Proofs = roomed(x.Proofs, api.Proof{Total: 5})
	x.Accounts = roomed(x.Accounts, api.Account{Addr: 4})
	list, proofs := x.Accounts, x.Proofs
	return append(all, sight{
		func() string { return fmt.Sprint(list[:cap(list)], proofs[:cap(proofs)]) },
		func() { spoil(list, api.Account{Addr: 3, Balance: 99}); spoil(proofs, api.Proof{Total: 1}) },
	})
}

// TestHandedOut: what a source hands out is not changed, nor the room behind it, and not kept: it may be written over as soon as it is asked again, or has been answered.
func TestHandedOut(t *testing.T) {
	w := examples(t)
	var sights []sight
	var looks []string
	see := func(all ...sight) {
		for _, x := range all {
			sights, looks = append(sights, x), append(looks, x.look())
		}
	}
	check := func() {
		t.Helper()
		for k, x := range sights {
			if x.look() != looks[k] {
				t.Fatalf("G3: what a source handed out has changed: %s, it was %s", x.look(), looks[k])
			}
		}
		for _, x := range sights {
			x.spoil()
		}
		sights, looks = nil, nil
	}
	s := &source{
		light: func(height uint64) (api.LightBlock, api.Errno) {
			check()
			u, e := w.lightOf(height)
			see(sightOfLight(&u))
			return u, e
		},
		account: func(height uint64, a api.Addr) (api.Witness, api.Errno) {
			x, e := w.witnessOf(height, a)
			see(sightOfWitness(&x)...)
			return x, e
		},
		tx: func(height uint64, at int) (api.Tx, api.Proof, api.Errno) {
			x, p, e := w.txOf(height, at)
			see(sightOfProof(&p))
			return x, p, e
		},
	}
	first := w.chain[1]
	see(sightOfLight(&first))
	c, e := client.New(params, name, w.r, first, 15)
	is(t, "S1", e, api.OK)
	check()
	w.wantTrusted("G3: New", c, 1)
	is(t, "S2", c.Follow(s, 9, 90), api.OK)
	check()
	w.wantTrusted("G3: Follow", c, 1, 3, 4, 5, 9)
	is(t, "S2", c.Follow(s, 2, 90), api.OK)
	check()
	for range 3 {
		for _, a := range []api.Addr{0, 1, 2, 3, 4, 5, 6} {
			x, there, e := c.Account(s, 2, a)
			was := fmt.Sprint(x, there, e)
			check()
			if y := fmt.Sprint(c.Account(s, 2, a)); y != was || e != api.OK {
				t.Errorf("G3: %s, it was %s", y, was)
			}
			check()
		}
		for at := range 2 {
			wantTx(t, "G3", c, s, 2, at, w.txs[2][at])
			check()
		}
	}
	w.wantTrusted("G3", c, 1, 2, 3, 4, 5, 9)
	is(t, "G3: it goes on", c.Follow(s, 7, 90), api.OK)
	check()
	w.wantTrusted("G3", c, 1, 2, 3, 4, 5, 7, 9)
}

// TestNilAndEmpty: an empty list is a nil one.
func TestNilAndEmpty(t *testing.T) {
	w := newWorld(t, 0, accounts(t))
	x := api.Tx{Kind: api.TxFree, From: 1}
	w.grow(seats(1), seats(1), accounts(t, api.Account{Addr: 1}), x)
	w.grow(seats(1), seats(1), accounts(t))
	c := w.client(1, 20)
	is(t, "S2", c.Follow(w.honest(), 2, 20), api.OK)
	s := w.honest()
	for _, aunts := range [][]api.Hash{nil, {}} {
		s.tx = func(uint64, int) (api.Tx, api.Proof, api.Errno) { return x, api.Proof{Total: 1, Aunts: aunts}, api.OK }
		wantTx(t, "G1", c, s, 1, 0, x)
		s.account = func(height uint64, a api.Addr) (api.Witness, api.Errno) {
			y, e := w.witnessOf(height, a)
			if height == 0 && aunts != nil {
				y.Accounts, y.Proofs = []api.Account{}, []api.Proof{}
			} else if height == 1 {
				y.Proofs[0].Aunts = aunts
			}
			return y, e
		}
		wantAccount(t, "G1", c, s, 0, 1, api.Account{})
		wantAccount(t, "G1", c, s, 1, 1, api.Account{Addr: 1})
	}
}

// TestAgainTheSame: the same calls answer the same, and clients of two News have nothing in common.
func TestAgainTheSame(t *testing.T) {
	play := func(beside bool) (all []string) {
		rnd := rand.New(rand.NewSource(194))
		w := someWorld(t, rnd)
		now := w.chain[tall].Header.Time
		p := api.Params{Trusting: 1000, Drift: 5}
		c, _ := client.New(p, name, w.r, w.chain[1], 15)
		other, _ := client.New(p, name, w.r, w.chain[1], now)
		for k := range uint64(60) {
			s := w.someSource(rnd)
			h := 1 + k*5%tall
			if beside {
				other.Follow(w.honest(), h, now)
				other.Account(s, h, 2)
				other.Tx(s, h, 0)
				s.asked = nil
			}
			all = append(all, fmt.Sprint(c.Follow(s, h, 3*k), c.Latest()))
			all = append(all, fmt.Sprint(c.Account(s, h-1, api.Addr(k%9))))
			all = append(all, fmt.Sprint(c.Tx(s, h, int(k%4))), s.take())
		}
		return all
	}
	first := play(false)
	for _, beside := range []bool{false, true} {
		if !slices.Equal(play(beside), first) {
			t.Errorf("G4: the same calls answer other things")
		}
	}
}

// TestGoroutinesEnd: none is left when a call has answered.
func TestGoroutinesEnd(t *testing.T) {
	w := examples(t)
	before := runtime.NumGoroutine()
	for range 50 {
		w.follower(90, 9, 2)
	}
	after := runtime.NumGoroutine()
	for range 100 { // those that have answered may still be on their way out
		if after <= before {
			return
		}
		time.Sleep(time.Millisecond)
		after = runtime.NumGoroutine()
	}
	t.Errorf("G4: %d goroutines, there were %d", after, before)
}

// TestWithin: a source may itself call the client: what that comes to counts from then on, and what was asked for is looked at by the header that was trusted.
func TestWithin(t *testing.T) {
	w := examples(t)
	c := w.follower(30, 3)
	s := w.honest()
	s.account = func(height uint64, a api.Addr) (api.Witness, api.Errno) {
		is(t, "S2: within", c.Follow(w.honest(), 2, 30), api.OK)
		wantTx(t, "S4: within", c, w.honest(), 2, 0, w.txs[2][0])
		return w.witnessOf(height, a)
	}
	wantAccount(t, "S3", c, s, 2, 3, api.Account{Addr: 3, Balance: 30})
	w.wantTrusted("S3", c, 1, 2, 3)
}
