package tally_test

import (
	"math"
	"reflect"
	"slices"
	"testing"

	"assent/api"
	"assent/tally"
)

// copyOf is what an object holds in another place: no New made that.
func copyOf[T any](was *T) *T {
	c := reflect.New(reflect.TypeFor[T]())
	c.Elem().Set(reflect.ValueOf(was).Elem())
	return c.Interface().(*T)
}

// filled has a quorum at round 6, its present one, and votes aside.
func filled(t *testing.T) *world {
	t.Helper()
	w := four(t)
	w.enter(6, 0)
	for from := api.Addr(1); from <= 3; from++ {
		w.takes("to fill", v(6, x, from), marked(c(6, x, from), byte(from)), v(9, none, from))
		w.add("to fill", c(12, y, from), far(api.Added{New: true}))
	}
	return w
}

func TestNotMade(t *testing.T) {
	w := filled(t)
	was := w.l.Held()
	for what, l := range map[string]*tally.Tally{"nil": nil, "zero": {}, "a copy": copyOf(w.l)} {
		for _, one := range []api.Vote{{}, v(6, x, 4), v(6, y, 1), c(15, x, 4), v(-1, x, 9), vote(9, 0, x, 1)} {
			if a, e := l.Add(one); e != api.ErrNil || a != (api.Added{}) {
				t.Errorf("G1: %s: Add of %v: %v, error %d", what, show(one), a, e)
			}
		}
		for _, round := range []int{0, 6, 9, -1, api.MaxRound + 1, math.MinInt} {
			if a, e := l.Enter(round); e != api.ErrNil || len(a) != 0 {
				t.Errorf("G1: %s: Enter(%d): %v, error %d", what, round, a, e)
			}
			for _, id := range []api.Hash{none, x} {
				if c, e := l.Cert(round, id); e != api.ErrNil || !reflect.DeepEqual(c, api.Cert{}) {
					t.Errorf("G1: %s: Cert(%d): %v, error %d", what, round, c, e)
				}
			}
			for _, kind := range []int{0, 1, 2, 3} {
				id, ok := l.Quorum(kind, round)
				if l.Power(kind, round, x) != 0 || l.Any(kind, round) != 0 || id != none || ok || len(l.Votes(kind, round)) != 0 {
					t.Errorf("G1: %s: something is told of kind %d, round %d", what, kind, round)
				}
			}
		}
		if r, ok := l.Skip(); r != 0 || ok || l.Round() != 0 || len(l.Held()) != 0 {
			t.Errorf("G1: %s: something is told", what)
		}
	}
	w.holds("behind the calls of others", was...)
}

// TestNothingPanics: votes and arguments of any kind, round, height and member.
func TestNothingPanics(t *testing.T) {
	numbers := []int{math.MinInt, math.MinInt + 1, -65536, -4, -3, -1, 0, 1, 2, 3, 4, 7, 8, 65535, 65536, math.MaxInt - 1, math.MaxInt}
	for _, present := range []int{0, 2, 9, api.MaxRound} {
		w := four(t)
		w.enter(present, 0)
		for _, kind := range numbers {
			for _, round := range numbers {
				for _, from := range []api.Addr{0, 1, 4, 5, math.MaxUint64} {
					for _, h := range []uint64{0, height, math.MaxUint64} {
						w.l.Add(api.Vote{Kind: kind, Height: h, Round: round, Id: z, Time: math.MaxUint64, From: from})
					}
				}
				w.l.Power(kind, round, z)
				w.l.Any(kind, round)
				w.l.Quorum(kind, round)
				w.l.Votes(kind, round)
				w.l.Cert(round, z)
			}
		}
		for _, one := range w.l.Held() {
			if one.Kind != prevote && one.Kind != precommit || one.Height != height || one.Round < 0 || one.Round > api.MaxRound || one.From != 1 && one.From != 4 {
				t.Errorf("T2: %v is held", show(one))
			}
		}
		for _, round := range numbers {
			w.l.Enter(round)
			w.l.Skip()
		}
		w.enter(api.MaxRound, 0)
	}
}

// TestCouncilIsNotKept: neither what is written over a council afterwards nor the room behind it is seen, and New leaves it as it is.
func TestCouncilIsNotKept(t *testing.T) {
	c4 := equals(4)
	c4.Members = append(c4.Members, api.Member{Addr: 5, Power: 1}, api.Member{Addr: 6, Power: 1})[:4]
	room := slices.Clone(c4.Members[:6])
	w := newWorld(t, height, c4)
	if !slices.Equal(c4.Members[:6], room) {
		t.Errorf("G3: New has changed its council")
	}
	w.takes("of the council", v(0, x, 1), v(0, x, 2))
	for k := range c4.Members[:6] {
		c4.Members[:6][k] = api.Member{Addr: api.Addr(90 + k), Power: 100}
	}
	w.takes("of the council that was", v(0, x, 3))
	w.power("of the council that was", prevote, 0, x, 3)
	w.quorum("of the council that was", prevote, 0, x, true)
	w.refuses("who was written over it", v(0, x, 90), api.ErrMember)
	w.refuses("who stood behind it", v(0, x, 5), api.ErrMember)
	w.takes("later", v(2, x, 3), v(2, x, 4))
	w.skips("of the council that was", 2, true)
}

// TestAnswersAreNew: what is written over an answer, or behind it, changes neither the tally nor another answer.
func TestAnswersAreNew(t *testing.T) {
	w := filled(t)
	held, votes, cert := w.l.Held(), w.l.Votes(precommit, 6), mustCert(t, w)
	wantHeld, wantVotes, wantMarks := slices.Clone(held), slices.Clone(votes), slices.Clone(cert.Marks)
	lists := [][]api.Vote{w.l.Held(), w.l.Votes(precommit, 6), w.l.Votes(prevote, 6), w.l.Held()}
	for _, list := range lists {
		list = list[:cap(list)]
		for k := range list {
			list[k] = api.Vote{Kind: 99}
		}
	}
	other := mustCert(t, w)
	other.Marks = other.Marks[:cap(other.Marks)]
	for k := range other.Marks {
		other.Marks[k] = api.Mark{Index: 99}
	}
	w.holds("G3", wantHeld...)
	w.votes("G3", precommit, 6, wantVotes...)
	w.cert("G3", 6, x, wantMarks...)
	if !slices.Equal(held, wantHeld) || !slices.Equal(votes, wantVotes) || !slices.Equal(cert.Marks, wantMarks) {
		t.Errorf("G3: an answer was changed by another")
	}
	entered, _ := w.l.Enter(9)
	if len(entered) != 3 {
		t.Fatalf("T3: %v", entered)
	}
	for k := range entered {
		entered[k] = api.Added{Two: true}
	}
	w.holds("G3: behind Enter", wantHeld...)
	if !slices.Equal(held, wantHeld) || !slices.Equal(votes, wantVotes) {
		t.Errorf("G3: Enter has changed an answer")
	}
}

func mustCert(t *testing.T, w *world) api.Cert {
	t.Helper()
	c, e := w.l.Cert(6, x)
	if e != api.OK || len(c.Marks) != 3 {
		t.Fatalf("T9: %v, error %d", c, e)
	}
	return c
}
