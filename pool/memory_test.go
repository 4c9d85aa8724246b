package pool_test

import (
	"math"
	"math/rand"
	"reflect"
	"slices"
	"testing"

	"assent/api"
	"assent/pool"
	"assent/seal"
)

// copyOf is what an object holds in another place: no New made that.
func copyOf[T any](was *T) *T {
	c := reflect.New(reflect.TypeFor[T]())
	c.Elem().Set(reflect.ValueOf(was).Elem())
	return c.Interface().(*T)
}

func TestNotMade(t *testing.T) {
	w := examples(t)
	x, y := w.pay(1, 5, 10, 3), w.pay(2, 0, 1, 1)
	w.fill(x)
	over := w.st
	over.Ledger = api.Ledger{Accounts: []api.Account{{Addr: 1, Nonce: 9}}}
	for what, p := range map[string]*pool.Pool{"nil": nil, "zero": {}, "a copy": copyOf(w.p)} {
		for _, one := range []api.Tx{x, y, {}} {
			if e := p.Add(w.st, w.r, one); e != api.ErrNil {
				t.Errorf("G1: %s: Add: error %d, want %d", what, e, api.ErrNil)
			}
			if e := p.Add(api.State{}, nil, one); e != api.ErrNil {
				t.Errorf("G1: %s: Add of nothing: error %d, want %d", what, e, api.ErrNil)
			}
		}
		if p.Has(idOf(t, x)) || p.Len() != 0 || len(p.List()) != 0 || len(p.Pick(w.st, w.r, 2)) != 0 || len(p.Recheck(over)) != 0 {
			t.Errorf("G1: %s: something is held", what)
		}
	}
	w.wantList("behind the calls of others", x)
	for what, r := range map[string]*seal.Registry{"nil": nil, "zero": {}, "a copy": copyOf(w.r)} {
		for _, one := range []api.Tx{x, y, {}} {
			if e := w.p.Add(w.st, r, one); e != api.ErrNil {
				t.Errorf("G1: a registry that is %s: Add: error %d, want %d", what, e, api.ErrNil)
			}
			w.addBehind("a registry that is "+what, api.State{}, r, one, api.ErrNil)
		}
		if got := w.p.Pick(w.st, r, 2); len(got) != 0 {
			t.Errorf("O3: a registry that is %s: Pick: %v", what, got)
		}
	}
	w.wantPick("with the registry", x)
	if w.r.Known(0) || w.r.Count() != 2 {
		t.Errorf("G3: the registry has changed: %d records", w.r.Count())
	}
}

// roomy is the same list with room behind it, in which something stands.
func roomy[T any](list []T, behind T) []T {
	return append(slices.Clone(list), behind, behind, behind)[:len(list)]
}

func roomyLedger(l api.Ledger) api.Ledger {
	l.Accounts = roomy(l.Accounts, api.Account{Addr: 77, Balance: 77})
	l.Releases = roomy(l.Releases, api.Release{Height: 77, Addr: 77})
	return l
}

// within is all that lies in a ledger's lists and in the room behind them, copied.
func within(l api.Ledger) api.Ledger {
	l.Accounts, l.Releases = slices.Clone(l.Accounts[:cap(l.Accounts)]), slices.Clone(l.Releases[:cap(l.Releases)])
	return l
}

func spoil(list []api.Tx) {
	list = list[:cap(list)]
	for k := range list {
		list[k] = api.Tx{Kind: 99}
	}
}

func spoilLedger(l api.Ledger) {
	for k := range l.Accounts[:cap(l.Accounts)] {
		l.Accounts[:cap(l.Accounts)][k] = api.Account{Addr: 99, Nonce: 99}
	}
	for k := range l.Releases[:cap(l.Releases)] {
		l.Releases[:cap(l.Releases)][k] = api.Release{Height: 99}
	}
}

// TestHandedIn: no call changes a state, or the room behind its lists, or keeps it.
func TestHandedIn(t *testing.T) {
	r := rand.New(rand.NewSource(92))
	for range 60 {
		w := newWorld(t, 8)
		st := someState(t, r)
		st.Params.MaxTxs = 20
		m := &model{most: 8}
		for range 40 {
			st.Ledger = roomyLedger(st.Ledger)
			was := within(st.Ledger)
			x := w.someTx(r)
			if e, want := w.p.Add(st, w.r, x), m.add(st, w.r, x); e != want {
				t.Fatalf("O2: error %d, want %d", e, want)
			}
			picked := w.p.Pick(st, w.r, 3)
			kept := slices.Clone(picked)
			if e := w.p.Add(st, w.r, x); e == api.OK {
				t.Fatalf("O2: %v is taken twice", x)
			}
			w.p.Recheck(st)
			m.recheck(st)
			if !reflect.DeepEqual(within(st.Ledger), was) {
				t.Fatalf("G3: a call has changed the state")
			}
			next := st
			next.Ledger = roomyLedger(st.Ledger)
			spoilLedger(st.Ledger)
			st = next
			w.wantTold("G3: List, behind a state that was written over", w.p.List(), m.sorted()...)
			w.wantTold("G3: Pick, behind a state that was written over", picked, kept...)
		}
	}
}

// TestAnswersAreNew: what is written over an answer changes neither the pool nor another answer.
func TestAnswersAreNew(t *testing.T) {
	w := newWorld(t, 20, api.Account{Addr: 1, Balance: 1000}, api.Account{Addr: 2, Balance: 1000}, api.Account{Addr: 3, Balance: 1000})
	for a := api.Addr(1); a <= 3; a++ {
		for n := range uint64(5) {
			w.fill(w.pay(a, n, 1, uint64(a)*7+n*3%11))
		}
	}
	list, picked := w.p.List(), w.p.Pick(w.st, w.r, 2)
	wantList, wantPicked := slices.Clone(list), slices.Clone(picked)
	answers := [][]api.Tx{w.p.List(), w.p.Pick(w.st, w.r, 2), w.p.List(), w.p.Pick(w.st, w.r, 2)}
	for _, answer := range answers {
		spoil(answer)
		w.wantTold("G3: another List", list, wantList...)
		w.wantTold("G3: another Pick", picked, wantPicked...)
		w.wantList("G3", wantList...)
		w.wantPick("G3", wantPicked...)
	}
	_ = append(list[:3], api.Tx{})
	w.wantList("G3: what grows behind an answer", wantList...)
	w.account(2).Nonce = 3
	over := w.p.Recheck(w.st)
	if len(over) != 3 {
		t.Fatalf("O4: %v", over)
	}
	left := w.p.List()
	spoil(over)
	w.wantList("G3: behind Recheck", left...)
	w.wantHeldWell("behind Recheck")
}

// TestAgainTheSame: the same calls, the same answers, whatever order a map is gone through in.
func TestAgainTheSame(t *testing.T) {
	type answer struct {
		e                  api.Errno
		list, picked, over []api.Tx
	}
	run := func(seed int64) (all []answer) {
		r := rand.New(rand.NewSource(seed))
		w := newWorld(t, 9)
		w.st = someState(t, r)
		w.st.Params.MaxTxs = 9
		for k := range 200 {
			var a answer
			a.e = w.p.Add(w.st, w.r, w.someTx(r))
			a.list, a.picked = w.p.List(), w.p.Pick(w.st, w.r, 3)
			w.wantTold("P9.6: Pick again", w.p.Pick(w.st, w.r, 3), a.picked...)
			if k%40 == 39 {
				w.st = someState(t, r)
				w.st.Params.MaxTxs = 9
				a.over = w.p.Recheck(w.st)
			}
			all = append(all, a)
		}
		return all
	}
	for seed := range int64(8) {
		if !reflect.DeepEqual(run(seed), run(seed)) {
			t.Fatalf("P9.6, G4: the calls of the seed %d are answered otherwise", seed)
		}
	}
}

// TestSpoiltStates: over a ledger that is not sound Pick ends, does not panic, and changes nothing; Add and Recheck do what they do anywhere.
func TestSpoiltStates(t *testing.T) {
	r := rand.New(rand.NewSource(93))
	numbers := []uint64{0, 1, 2, 3, 5, 40, 100, supply, supply + 1, api.MaxHeight - 1, api.MaxHeight, math.MaxUint64 - 1, math.MaxUint64}
	some := func() uint64 { return numbers[r.Intn(len(numbers))] }
	for range 150 {
		w := newWorld(t, 6)
		m := &model{most: 6}
		w.st = someState(t, r)
		for k := range 60 {
			st := w.st
			if k%2 == 1 {
				st.Ledger = api.Ledger{Burnt: some(), Supply: some()}
				for range r.Intn(9) {
					st.Ledger.Accounts = append(st.Ledger.Accounts, api.Account{Addr: api.Addr(r.Intn(8)), Balance: some(), Bond: some(), Nonce: uint64(r.Intn(4)), Jailed: r.Intn(2) == 0})
				}
				for range r.Intn(5) {
					st.Ledger.Releases = append(st.Ledger.Releases, api.Release{Height: some(), Addr: api.Addr(r.Intn(8)), Born: some(), Amount: some()})
				}
				st.Height, st.Params.Period, st.Params.MaxTxs = some(), some(), int(some())
			}
			x := w.someTx(r)
			if e, want := w.p.Add(st, w.r, x), m.add(st, w.r, x); e != want {
				t.Fatalf("O2: Add of %v behind %v: error %d, want %d", x, st, e, want)
			}
			w.p.Pick(st, w.r, api.Addr(r.Intn(9)))
			w.p.Pick(st, nil, api.Addr(some()))
			if k%7 == 6 {
				w.wantTold("O4: behind a ledger that is not sound", w.p.Recheck(st), m.recheck(st)...)
			}
			w.wantList("behind a ledger that is not sound", m.sorted()...)
			if t.Failed() {
				t.Fatalf("behind %v", st)
			}
		}
	}
}

// TestEmptyStates: nil lists and empty ones mean the same.
func TestEmptyStates(t *testing.T) {
	w := examples(t)
	x := w.pay(1, 5, 10, 3)
	w.fill(x)
	for _, l := range []api.Ledger{{}, {Accounts: []api.Account{}, Releases: []api.Release{}}} {
		st := w.st
		st.Ledger = l
		w.addBehind("behind nothing", st, w.r, w.pay(1, 6, 1, 1), api.ErrNobody)
		if len(w.p.Pick(st, w.r, 2)) != 0 || len(w.p.Recheck(st)) != 0 {
			t.Errorf("G1: behind nothing something is told")
		}
	}
	if len(w.p.Pick(api.State{}, w.r, 0)) != 0 || len(w.p.Recheck(api.State{})) != 0 {
		t.Errorf("G1: behind the zero state something is told")
	}
	w.wantList("behind nothing", x)
}
