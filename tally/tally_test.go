package tally_test

import (
	"fmt"
	"math"
	"reflect"
	"slices"
	"testing"

	"assent/api"
	"assent/council"
	"assent/tally"
)

const (
	prevote   = api.Prevote
	precommit = api.Precommit
	height    = 5
)

// x is below y, z differs from y in its last byte alone.
var (
	none = api.Hash{}
	x    = api.Hash{1}
	y    = api.Hash{2}
	z    = api.Hash{0: 2, 31: 1}
)

var bothKinds = []int{prevote, precommit}

// world is a tally, and where its tests tell what is wrong.
type world struct {
	t *testing.T
	l *tally.Tally
}

func vote(kind, round int, id api.Hash, from api.Addr) api.Vote {
	return api.Vote{Kind: kind, Height: height, Round: round, Id: id, From: from}
}

func v(round int, id api.Hash, from api.Addr) api.Vote { return vote(prevote, round, id, from) }
func c(round int, id api.Hash, from api.Addr) api.Vote { return vote(precommit, round, id, from) }

// marked is the same vote with another time and seal.
func marked(w api.Vote, mark byte) api.Vote {
	w.Time, w.Seal = uint64(mark), api.Seal{mark}
	return w
}

// councilOf has the members 1, 2, .. of these powers.
func councilOf(powers ...uint64) (c api.Council) {
	for k, p := range powers {
		c.Members = append(c.Members, api.Member{Addr: api.Addr(k + 1), Power: p})
	}
	return c
}

func equals(n int) api.Council { return councilOf(slices.Repeat([]uint64{1}, n)...) }

func newWorld(t *testing.T, h uint64, c api.Council) *world {
	t.Helper()
	l, e := tally.New(h, c)
	if e != api.OK || l == nil {
		t.Fatalf("T1: New(%d, %v): error %d", h, c, e)
	}
	return &world{t, l}
}

// four is the tally of the chapter's examples.
func four(t *testing.T) *world {
	t.Helper()
	return newWorld(t, height, equals(4))
}

func (w *world) add(what string, one api.Vote, want api.Added) {
	w.t.Helper()
	if got, e := w.l.Add(one); e != api.OK || got != want {
		w.t.Errorf("T2: %s: Add of %v: %v, error %d, want %v", what, show(one), got, e, want)
	}
}

// takes: all of them are held from now on.
func (w *world) takes(what string, list ...api.Vote) {
	w.t.Helper()
	for _, one := range list {
		w.add(what, one, api.Added{New: true})
	}
}

// refuses: an error, nothing beside it, and nothing has changed.
func (w *world) refuses(what string, one api.Vote, want api.Errno) {
	w.t.Helper()
	was, round := w.l.Held(), w.l.Round()
	if got, e := w.l.Add(one); e != want || got != (api.Added{}) {
		w.t.Errorf("T2: %s: Add of %v: %v, error %d, want %d", what, show(one), got, e, want)
	}
	if !slices.Equal(w.l.Held(), was) || w.l.Round() != round {
		w.t.Errorf("G2: %s: refused, and %v are held behind %v", what, w.l.Held(), was)
	}
}

func (w *world) enter(round, want int) {
	w.t.Helper()
	got, e := w.l.Enter(round)
	if e != api.OK || len(got) != want || w.l.Round() != round {
		w.t.Errorf("T3: Enter(%d): %v, error %d, round %d, want %d votes", round, got, e, w.l.Round(), want)
	}
	for _, a := range got {
		if a != (api.Added{New: true}) {
			w.t.Errorf("T3: Enter(%d): %v, want New alone", round, a)
		}
	}
}

func (w *world) holds(what string, want ...api.Vote) {
	w.t.Helper()
	if got := w.l.Held(); !slices.Equal(got, want) {
		w.t.Errorf("T10: %s: held are %v, want %v", what, showAll(got), showAll(want))
	}
}

func (w *world) skips(what string, round int, yes bool) {
	w.t.Helper()
	if r, ok := w.l.Skip(); r != round || ok != yes {
		w.t.Errorf("T7: %s: Skip: %d %v, want %d %v", what, r, ok, round, yes)
	}
}

func (w *world) power(what string, kind, round int, id api.Hash, want uint64) {
	w.t.Helper()
	if got := w.l.Power(kind, round, id); got != want {
		w.t.Errorf("T5: %s: Power(%d, %d, %x): %d, want %d", what, kind, round, id[:1], got, want)
	}
}

func (w *world) any(what string, kind, round int, want uint64) {
	w.t.Helper()
	if got := w.l.Any(kind, round); got != want {
		w.t.Errorf("T5: %s: Any(%d, %d): %d, want %d", what, kind, round, got, want)
	}
}

func (w *world) quorum(what string, kind, round int, id api.Hash, yes bool) {
	w.t.Helper()
	if got, ok := w.l.Quorum(kind, round); got != id || ok != yes {
		w.t.Errorf("T6: %s: Quorum(%d, %d): %x %v, want %x %v", what, kind, round, got, ok, id, yes)
	}
}

func (w *world) votes(what string, kind, round int, want ...api.Vote) {
	w.t.Helper()
	if got := w.l.Votes(kind, round); !slices.Equal(got, want) {
		w.t.Errorf("T8: %s: Votes(%d, %d): %v, want %v", what, kind, round, showAll(got), showAll(want))
	}
}

func (w *world) cert(what string, round int, id api.Hash, marks ...api.Mark) {
	w.t.Helper()
	got, e := w.l.Cert(round, id)
	want := api.Cert{Height: height, Round: round, Id: id, Marks: marks}
	if e != api.OK || !reflect.DeepEqual(got, want) {
		w.t.Errorf("T9: %s: Cert(%d, %x): %v, error %d, want %v", what, round, id[:1], got, e, want)
	}
}

func (w *world) noCert(what string, round int, id api.Hash, want api.Errno) {
	w.t.Helper()
	if got, e := w.l.Cert(round, id); e != want || !reflect.DeepEqual(got, api.Cert{}) {
		w.t.Errorf("T9: %s: Cert(%d, %x): %v, error %d, want %d", what, round, id[:1], got, e, want)
	}
}

func both(a, b api.Vote) api.Added {
	return api.Added{Two: true, Both: api.Evidence{A: a, B: b}}
}

func far(a api.Added) api.Added {
	a.Far = true
	return a
}

func show(w api.Vote) string {
	return fmt.Sprintf("(%d %d %x..%x %d @%d)", w.Kind, w.Round, w.Id[0], w.Id[31], w.From, w.Time)
}

func showAll(list []api.Vote) (s []string) {
	for _, w := range list {
		s = append(s, show(w))
	}
	return s
}

// TestExamples: the chapter's examples, one behind the other.
func TestExamples(t *testing.T) {
	w := four(t)
	w.takes("example 1", v(0, x, 1))
	w.add("example 1", v(0, x, 1), api.Added{})
	w.add("example 1", v(0, y, 1), both(v(0, x, 1), v(0, y, 1)))
	w.power("example 1", prevote, 0, x, 1)
	w.power("example 1", prevote, 0, y, 0)
	w.any("example 1", prevote, 0, 1)
	w.takes("example 1", v(0, none, 2))
	w.any("example 1", prevote, 0, 2)

	w.takes("example 2", c(0, x, 1), c(0, x, 2), c(0, x, 3))
	w.quorum("example 2", precommit, 0, x, true)
	w.cert("example 2", 0, x, api.Mark{Index: 0}, api.Mark{Index: 1}, api.Mark{Index: 2})
	w.noCert("example 2", 0, none, api.ErrArg)
	w.noCert("example 2", 0, y, api.ErrQuorum)
	w.noCert("example 2", 1, x, api.ErrQuorum)

	w.add("example 3", v(4, x, 2), far(api.Added{New: true}))
	w.add("example 3", v(6, y, 2), far(api.Added{New: true}))
	w.add("example 3", v(5, x, 2), far(api.Added{}))
	w.add("example 3", v(6, x, 2), far(both(v(6, x, 2), v(6, y, 2))))
	w.holds("example 3", v(0, x, 1), v(0, none, 2), c(0, x, 1), c(0, x, 2), c(0, x, 3), v(6, y, 2))
	w.any("example 3", prevote, 6, 0)
	w.skips("example 3, one alone", 0, false)
	w.takes("example 3", c(2, x, 3))
	w.skips("example 3", 2, true)
	w.add("example 3", c(9, none, 4), far(api.Added{New: true}))
	w.skips("example 3", 6, true)

	w.enter(6, 2)
	w.holds("example 4", v(6, y, 2), c(9, none, 4))
	w.any("example 4", prevote, 6, 1)
	w.skips("example 4", 0, false)
	w.add("example 4", v(2, x, 1), api.Added{Old: true})
	w.wantEnterRefused(5)
	w.enter(6, 0)
	w.wantEnterRefused(65536)

	other := v(0, x, 1)
	other.Height = 4
	w.refuses("example 5", other, api.ErrOther)
	w.refuses("example 5", v(0, x, 9), api.ErrMember)
	other.Kind = 3
	w.refuses("example 5", other, api.ErrArg)
	w.refuses("example 5", v(-1, x, 1), api.ErrArg)

	w = four(t)
	w.add("example 6", v(4, x, 2), far(api.Added{New: true}))
	w.enter(20, 0)
	w.holds("example 6")
}

func (w *world) wantEnterRefused(round int) {
	w.t.Helper()
	was, present := w.l.Held(), w.l.Round()
	if got, e := w.l.Enter(round); e != api.ErrArg || len(got) != 0 {
		w.t.Errorf("T3: Enter(%d): %v, error %d, want %d", round, got, e, api.ErrArg)
	}
	if !slices.Equal(w.l.Held(), was) || w.l.Round() != present {
		w.t.Errorf("G2: a refused Enter(%d) has changed the tally", round)
	}
}

// unsound are councils that Sound refuses, each for another reason.
var unsound = []api.Council{
	{},
	{Members: []api.Member{}},
	equals(65),
	{Members: []api.Member{{Addr: 0, Power: 1}}},
	{Members: []api.Member{{Addr: 2, Power: 1}, {Addr: 1, Power: 1}}},
	{Members: []api.Member{{Addr: 1, Power: 1}, {Addr: 1, Power: 1}}},
	councilOf(1, 0),
	councilOf(math.MaxUint64),
	councilOf(api.MaxSupply, 1),
	{Members: []api.Member{{Addr: 1, Power: 1, Priority: 8}}},
	{Members: []api.Member{{Addr: 1, Power: 1, Priority: math.MinInt64}}},
}

func TestNew(t *testing.T) {
	for _, h := range []uint64{1, 2, api.MaxHeight - 1, api.MaxHeight} {
		w := newWorld(t, h, equals(4))
		w.holds("a new tally")
		w.skips("a new tally", 0, false)
		if w.l.Round() != 0 {
			t.Errorf("T4: a new tally is at round %d", w.l.Round())
		}
		for _, kind := range bothKinds {
			w.any("a new tally", kind, 0, 0)
			w.quorum("a new tally", kind, 0, none, false)
			w.votes("a new tally", kind, 0)
		}
		one := v(0, x, 1)
		one.Height = h
		w.takes("of its height", one)
		one.Height = h - 1
		w.refuses("a height less", one, api.ErrOther)
	}
	for _, h := range []uint64{0, api.MaxHeight + 1, 1 << 41, math.MaxUint64} {
		for _, c := range append([]api.Council{equals(4)}, unsound...) {
			if l, e := tally.New(h, c); l != nil || e != api.ErrArg {
				t.Errorf("T1: New(%d, %v): %v, error %d, want %d", h, c, l, e, api.ErrArg)
			}
		}
	}
	seen := map[api.Errno]int{}
	for _, c := range unsound {
		want := council.Sound(c)
		seen[want]++
		if l, e := tally.New(1, c); l != nil || e != want || e == api.OK {
			t.Errorf("T1: New(1, %v): %v, error %d, want %d", c, l, e, want)
		}
	}
	if len(seen) != 7 {
		t.Errorf("T1: the councils are refused by %v", seen)
	}
	for _, c := range []api.Council{councilOf(1), councilOf(api.MaxSupply), equals(64), {Members: []api.Member{{Addr: math.MaxUint64, Power: 1, Priority: -7}}}} {
		newWorld(t, 1, c)
	}
}
