package misdeed_test

import (
	"fmt"
	"math"
	"math/rand"
	"slices"
	"testing"

	"assent/api"
	"assent/ledger"
	"assent/misdeed"
	"assent/seal"
)

// add wants that answer, and with an error that nothing has changed.
func (w *world) add(what string, e api.Evidence, want api.Errno) {
	w.t.Helper()
	w.addBehind(what, w.st, w.r, e, want)
}

func (w *world) addBehind(what string, st api.State, r *seal.Registry, e api.Evidence, want api.Errno) {
	w.t.Helper()
	n, picked := w.p.Len(), w.p.Pick(w.st, w.r)
	if got := w.p.Add(st, r, e); got != want {
		w.t.Errorf("P11.4: %s: error %d, want %d", what, got, want)
	}
	if want == api.OK {
		n++
	} else if !slices.Equal(w.p.Pick(w.st, w.r), picked) {
		w.t.Errorf("G2: %s: refused, and yet it changes what is picked", what)
	}
	if w.p.Len() != n {
		w.t.Errorf("P11.7: %s: %d wait, want %d", what, w.p.Len(), n)
	}
}

// fill adds all of them.
func (w *world) fill(list ...api.Evidence) {
	w.t.Helper()
	for _, e := range list {
		w.add("to fill", e, api.OK)
	}
}

// waits is the evidence of a pair that waits.
func (w *world) waits(height uint64, a api.Addr) []api.Evidence {
	return w.p.Pick(only(height, a), w.r)
}

func (w *world) wantPick(what string, want ...api.Evidence) {
	w.t.Helper()
	w.wantPickBehind(what, w.st, want...)
}

func (w *world) wantPickBehind(what string, st api.State, want ...api.Evidence) {
	w.t.Helper()
	n := w.p.Len()
	for range 2 {
		if got := w.p.Pick(st, w.r); !slices.Equal(got, want) {
			w.t.Errorf("P11.5: %s: %s, want %s", what, told(got), told(want))
		}
	}
	if w.p.Len() != n {
		w.t.Errorf("P11.5: %s: %d waited, and %d behind Pick", what, n, w.p.Len())
	}
}

// settle wants that just these wait behind it.
func (w *world) settle(what string, st api.State, done []api.Evidence, want ...api.Evidence) {
	w.t.Helper()
	w.p.Settle(st, done)
	if w.p.Len() != len(want) {
		w.t.Errorf("P11.6: %s: %d wait, want %d", what, w.p.Len(), len(want))
	}
	for _, e := range want {
		if got := w.waits(e.A.Height, e.A.From); !slices.Equal(got, []api.Evidence{e}) {
			w.t.Errorf("P11.6: %s: of (%d, %d) waits %s", what, e.A.Height, e.A.From, told(got))
		}
	}
}

func TestNew(t *testing.T) {
	w := examples(t)
	p := misdeed.New()
	if p == nil || p.Len() != 0 || len(p.Pick(w.st, w.r)) != 0 {
		t.Fatalf("P11.3: a new pool is not empty")
	}
	e := w.ev(15, 1)
	w.fill(e)
	if p.Len() != 0 || len(p.Pick(w.st, w.r)) != 0 {
		t.Errorf("G4: another pool has it too")
	}
	if got := p.Add(w.st, w.r, e); got != api.OK {
		t.Errorf("G4: to another pool: error %d", got)
	}
	p.Settle(api.State{}, nil)
	w.wantPick("another pool was settled", e)
}

// TestFirstCame: of a pair the one that came first waits, whatever comes behind it.
func TestFirstCame(t *testing.T) {
	w := examples(t)
	proofs := []api.Evidence{w.proof(15, 1, precommit, 4), w.proof(15, 1, prevote, 0), w.proof(15, 1, prevote, 9), mustPair(t, w.v(prevote, 15, 0, 0, 1), w.v(prevote, 15, 0, 1, 1))}
	for k, first := range proofs {
		w.p = misdeed.New()
		w.fill(first)
		for _, e := range proofs {
			w.add("another one of the pair", e, api.ErrKnown)
		}
		w.wantPick("the first", first)
		w.settle("it has stood in a block", w.st, []api.Evidence{proofs[(k+1)%len(proofs)]})
		w.add("once more", proofs[(k+2)%len(proofs)], api.OK)
		w.wantPick("the first since", proofs[(k+2)%len(proofs)])
	}
	w.p = misdeed.New()
	w.fill(proofs[0], w.ev(14, 1), w.ev(15, 2))
	if w.p.Len() != 3 {
		t.Errorf("P11.3: %d wait", w.p.Len())
	}
}

// TestAddRefuses: what Verify refuses, ahead of ErrKnown.
func TestAddRefuses(t *testing.T) {
	w := examples(t)
	e := w.ev(15, 1)
	w.add("no kind", api.Evidence{}, api.ErrKind)
	w.add("turned", api.Evidence{A: e.B, B: e.A}, api.ErrPair)
	w.add("too old", w.ev(10, 1), api.ErrAge)
	w.add("not yet", w.ev(21, 1), api.ErrAge)
	w.add("no member", w.ev(15, 4), api.ErrMember)
	w.addBehind("without a state", api.State{}, w.r, e, api.ErrAge)
	w.addBehind("another registry", w.st, seal.New(), e, api.ErrSeal)
	w.addBehind("no registry", w.st, nil, e, api.ErrNil)
	w.fill(e)
	w.add("known, but turned", api.Evidence{A: e.B, B: e.A}, api.ErrPair)
	wrong := e
	wrong.A.Seal[0]++
	w.add("known, but a wrong seal", wrong, api.ErrSeal)
	done := w.st
	done.Punished = []api.Offence{{Height: 15, Addr: 1}}
	w.addBehind("known, but punished", done, w.r, e, api.ErrDone)
	w.addBehind("known, but no member", only(15, 2), w.r, e, api.ErrMember)
	w.addBehind("known, but too old", stateOf(30, 10, 21, seats(1)), w.r, e, api.ErrAge)
	w.addBehind("known, but no registry", w.st, nil, e, api.ErrNil)
	w.add("known", e, api.ErrKnown)
	w.wantPick("what waited", e)
}

// TestPickOrder: by height as a number, then by member as a number.
func TestPickOrder(t *testing.T) {
	w := examples(t)
	big := []api.Addr{1, 2, 9, 10, 255, 256, 1 << 62, 1<<63 + 5, math.MaxUint64}
	w.st = stateOf(300, 300, 1, seats(big...))
	var want []api.Evidence
	for _, height := range []uint64{1, 2, 9, 10, 99, 255, 256, 300} {
		for _, a := range big[int(height)%7:][:2] {
			want = append(want, w.ev(height, a))
		}
	}
	r := rand.New(rand.NewSource(115))
	for range 20 {
		w.p = misdeed.New()
		for _, k := range r.Perm(len(want)) {
			w.fill(want[k])
		}
		w.wantPick("sixteen", want...)
	}
}

// TestPickSixteen: the first sixteen of those that are let; what is not let takes no place.
func TestPickSixteen(t *testing.T) {
	w := examples(t)
	var all []api.Evidence
	for height := uint64(11); height <= 20; height++ {
		for a := api.Addr(1); a <= 3; a++ {
			all = append(all, w.ev(height, a))
		}
	}
	for k := len(all) - 1; k >= 0; k-- {
		w.fill(all[k])
		w.wantPick("one more", all[k:min(k+16, len(all))]...)
	}
	st := w.st
	st.Height, st.Past = 22, slices.Concat(st.Past[2:], stateOf(22, 10, 21, seats(1)).Past)
	w.wantPickBehind("two heights are too old", st, all[6:22]...)
	st = w.st
	for k := range 10 {
		st.Punished = append(st.Punished, api.Offence{Height: all[2*k].A.Height, Addr: all[2*k].A.From})
	}
	var left []api.Evidence
	for k, e := range all {
		if k >= 20 || k%2 == 1 {
			left = append(left, e)
		}
	}
	w.wantPickBehind("ten are punished", st, left[:16]...)
	st = w.st
	st.Past = slices.Clone(w.st.Past)
	for k := range 9 {
		st.Past[k].Council = seats(4)
	}
	w.wantPickBehind("no members", st, all[27:]...)
	st.Past = nil
	w.wantPickBehind("no entries", st)
	st = w.st
	st.Chain = "d"
	w.wantPickBehind("another chain", st)
	w.wantPickBehind("no state", api.State{})
	if got := w.p.Pick(w.st, seal.New()); len(got) != 0 {
		t.Errorf("P11.5: another registry: %s", told(got))
	}
	w.wantPick("they wait on", all[:16]...)
}

func TestSettle(t *testing.T) {
	w := examples(t)
	a, b, c, d := w.ev(11, 1), w.ev(15, 1), w.ev(15, 2), w.ev(20, 3)
	w.fill(a, b, c, d)
	w.settle("nothing goes", w.st, nil, a, b, c, d)
	w.settle("an empty list", w.st, []api.Evidence{}, a, b, c, d)
	w.settle("others", w.st, []api.Evidence{{}, w.ev(15, 3), w.ev(14, 1), w.ev(20, 1), w.ev(30, 9)}, a, b, c, d)
	st := w.st
	st.Chain = ""
	w.settle("seals are not looked at", st, nil, a, b, c, d)
	st = stateOf(20, 10, 11, api.Council{})
	w.settle("nor members", st, nil, a, b, c, d)
	st.Punished = []api.Offence{{Height: 15, Addr: 3}, {Height: 1, Addr: 15}, {Height: 15, Addr: 2}, {}}
	w.settle("a pair that is punished, and no member", st, nil, a, b, d)
	st = w.st
	st.Height = 19
	w.settle("not yet", st, nil, a, b)
	st = w.st
	st.Height = 21
	w.settle("too old, though it has an entry", st, nil, b)
	w.fill(a, d)
	st = w.st
	st.Past = slices.Concat(w.st.Past[:4], w.st.Past[5:])
	w.settle("without an entry", st, nil, a, d)
	w.settle("no state", api.State{}, nil)
	w.settle("nothing waits", w.st, []api.Evidence{a})
}

// TestSettleDone: what a block has held goes by the pair of its A, whatever else stands there.
func TestSettleDone(t *testing.T) {
	w := examples(t)
	a, b, c := w.ev(15, 1), w.ev(15, 2), w.ev(16, 1)
	w.fill(a, b, c)
	odd := api.Evidence{A: api.Vote{Kind: -5, Height: 15, Round: -1, From: 1}, B: b.A}
	w.settle("of the pair of A, not of B", w.st, []api.Evidence{odd, odd}, b, c)
	w.settle("no B", w.st, []api.Evidence{{A: api.Vote{Height: 16, From: 1}}}, b)
	w.settle("no A", w.st, []api.Evidence{{B: b.B}}, b)
	w.add("not punished behind this state", a, api.OK)
	w.settle("all of them", w.st, []api.Evidence{c, b, a})
}

// TestOrderOfAdding is P11.10: it is the same, whoever added what in which order.
func TestOrderOfAdding(t *testing.T) {
	w := examples(t)
	r := rand.New(rand.NewSource(116))
	var all []api.Evidence
	for range 24 {
		e := w.proof(uint64(11+r.Intn(10)), api.Addr(1+r.Intn(3)), prevote, 0)
		if !slices.Contains(all, e) {
			all = append(all, e)
		}
	}
	var want []api.Evidence
	for n := range 20 {
		w.p = misdeed.New()
		for _, k := range r.Perm(len(all)) {
			w.fill(all[k])
			w.add("another one, later", w.proof(all[k].A.Height, all[k].A.From, precommit, n), api.ErrKnown)
		}
		if n == 0 {
			want = w.p.Pick(w.st, w.r)
		}
		w.wantPick("in another order", want...)
	}
	for k, e := range want {
		w.verify("what is picked", w.st, e, api.OK)
		if slices.ContainsFunc(want[:k], func(x api.Evidence) bool { return samePair(x, e) }) {
			t.Errorf("P11.10: two of one pair: %s", told(want))
		}
	}
}

// TestPickedIsDone is P11.10's last line.
func TestPickedIsDone(t *testing.T) {
	w := examples(t)
	for height := uint64(11); height <= 20; height++ {
		w.fill(w.ev(height, 1), w.ev(height, 2))
	}
	picked := w.p.Pick(w.st, w.r)
	for _, e := range picked {
		w.st.Punished = append(w.st.Punished, api.Offence{Height: e.A.Height, Addr: e.A.From})
	}
	rest := []api.Evidence{w.ev(19, 1), w.ev(19, 2), w.ev(20, 1), w.ev(20, 2)}
	w.wantPick("ahead of Settle", rest...)
	w.settle("all that was picked is punished", w.st, nil, rest...)
	w.wantPick("behind Settle", rest...)
	for _, e := range picked {
		w.add("punished", e, api.ErrDone)
		w.add("punished, another one", w.proof(e.A.Height, e.A.From, precommit, 5), api.ErrDone)
	}
}

// TestAnyProof is P11.11: whichever of a pair's proofs is punished, it costs the same, and all of them are done.
func TestAnyProof(t *testing.T) {
	w := examples(t)
	l, e := ledger.New([]api.Account{{Addr: 1, Balance: 5, Bond: 100}, {Addr: 2, Bond: 50}})
	if e != api.OK {
		t.Fatalf("ledger.New: error %d", e)
	}
	proofs := []api.Evidence{w.proof(15, 1, prevote, 0), w.proof(15, 1, precommit, 0), w.proof(15, 1, precommit, 7)}
	for _, shown := range proofs {
		w.p = misdeed.New()
		w.fill(shown)
		got, e := ledger.Punish(l, api.Params{Slash: 500}, shown.A.From, shown.A.Height)
		if e != api.OK || got.Burnt != 50 {
			t.Errorf("P11.11: %d is burnt, error %d", got.Burnt, e)
		}
		st := w.st
		st.Punished = []api.Offence{{Height: shown.A.Height, Addr: shown.A.From}}
		for _, other := range proofs {
			w.verify("another proof of what is punished", st, other, api.ErrDone)
		}
		w.settle("punished by another", st, nil)
	}
}

// TestFull: so many wait and no more; what is known, or refused, is told ahead of that.
func TestFull(t *testing.T) {
	w := examples(t)
	const members = 256
	var addrs []api.Addr
	for a := api.Addr(1); a <= members+1; a++ {
		addrs = append(addrs, a)
	}
	w.st = stateOf(256, 256, 1, seats(addrs...))
	for height := uint64(1); height <= 256; height++ {
		for a := api.Addr(1); a <= members; a++ {
			if got := w.p.Add(w.st, w.r, w.ev(height, a)); got != api.OK {
				t.Fatalf("P11.4: the %d. one: error %d", w.p.Len()+1, got)
			}
		}
	}
	if w.p.Len() != api.MaxPool {
		t.Fatalf("P11.7: %d wait", w.p.Len())
	}
	more, wrong := w.ev(200, members+1), w.ev(201, members+1)
	wrong.B.Seal[7]++
	w.add("one more", more, api.ErrBig)
	w.add("a known one", w.ev(7, 7), api.ErrKnown)
	w.add("a wrong seal", wrong, api.ErrSeal)
	w.p.Settle(w.st, []api.Evidence{w.ev(7, 7)})
	w.add("there is room again", more, api.OK)
	w.add("one more again", w.ev(7, 7), api.ErrBig)
	if got := w.waits(200, members+1); !slices.Equal(got, []api.Evidence{more}) {
		t.Errorf("P11.4: it does not wait: %s", told(got))
	}
	st := stateOf(500, 256, 245, seats(addrs...))
	st.Punished = []api.Offence{{Height: 245, Addr: 1}, {Height: 245, Addr: 3}}
	w.p.Settle(st, nil)
	if want := 12*members - 2; w.p.Len() != want {
		t.Errorf("P11.6: %d wait, want %d", w.p.Len(), want)
	}
	for k, e := range w.p.Pick(st, w.r) {
		if want := []api.Addr{2, 4, 5, 6, 7, 8, 9, 10, 11, 12, 13, 14, 15, 16, 17, 18}[k]; e.A.Height != 245 || e.A.From != want {
			t.Errorf("P11.5: at the place %d: %s", k, told([]api.Evidence{e}))
		}
	}
	w.addBehind("there is much room", st, w.r, w.ev(256, members+1), api.OK)
}

func TestLen(t *testing.T) {
	w := examples(t)
	for k := range 10 {
		if w.p.Len() != k {
			t.Errorf("P11.7: %d wait, want %d", w.p.Len(), k)
		}
		w.fill(w.ev(uint64(11+k), 1))
	}
	for k := range 10 {
		w.p.Settle(w.st, []api.Evidence{w.ev(uint64(11+k), 1)})
		if w.p.Len() != 9-k {
			t.Errorf("P11.7: %s: %d wait, want %d", fmt.Sprint("settled ", k), w.p.Len(), 9-k)
		}
	}
}
