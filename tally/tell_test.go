package tally_test

import (
	"math"
	"slices"
	"testing"

	"assent/api"
	"assent/council"
)

// TestPowers: Power, Any and Quorum go by the members' powers, without wrapping, up to the greatest.
func TestPowers(t *testing.T) {
	third := uint64(api.MaxSupply / 3) // MaxSupply is 3 times it: so two such members are no quorum yet
	w := newWorld(t, height, councilOf(third, third, third-1, 1))
	w.takes("of great power", v(1, x, 1), v(1, x, 2), v(1, y, 3))
	w.power("two thirds", prevote, 1, x, 2*third)
	w.power("less than a third", prevote, 1, y, third-1)
	w.any("all but one", prevote, 1, api.MaxSupply-1)
	w.quorum("two thirds are none", prevote, 1, none, false)
	w.takes("the last one", v(1, x, 4))
	w.power("one more", prevote, 1, x, 2*third+1)
	w.any("all", prevote, 1, api.MaxSupply)
	w.quorum("one more", prevote, 1, x, true)
	w.quorum("the other kind", precommit, 1, none, false)
	w.quorum("another round", prevote, 2, none, false)
	w.noCert("prevotes make none", 1, x, api.ErrQuorum)
}

// TestNoSuchVotes: of kinds that are none, and of rounds out of the window, there is nothing.
func TestNoSuchVotes(t *testing.T) {
	w := four(t)
	w.enter(20, 0)
	for from := api.Addr(1); from <= 4; from++ {
		for _, kind := range bothKinds {
			w.takes("in the window", vote(kind, 20, x, from), vote(kind, 17, x, from), vote(kind, 23, x, from))
			w.add("aside", vote(kind, 24, x, from), far(api.Added{New: true}))
		}
	}
	nothing := func(kind, round int) {
		t.Helper()
		w.power("nothing", kind, round, x, 0)
		w.power("nothing", kind, round, none, 0)
		w.any("nothing", kind, round, 0)
		w.quorum("nothing", kind, round, none, false)
		w.votes("nothing", kind, round)
	}
	for _, kind := range []int{0, 3, -1, math.MaxInt, math.MinInt} {
		for _, round := range []int{17, 20, 23, 24, math.MinInt, math.MaxInt} {
			nothing(kind, round)
		}
	}
	for _, round := range []int{16, 24, 25, 18, 0, -1, -20, api.MaxRound, api.MaxRound + 1, math.MinInt, math.MaxInt} {
		for _, kind := range bothKinds {
			nothing(kind, round)
		}
		w.noCert("of a round of which nothing counts", round, x, api.ErrQuorum)
		w.noCert("of no block", round, none, api.ErrArg)
	}
	for _, round := range []int{17, 20, 23} {
		for _, kind := range bothKinds {
			w.any("all four", kind, round, 4)
			w.quorum("all four", kind, round, x, true)
		}
	}
}

// TestQuorum: for none too; never for two ids; not one vote too early.
func TestQuorum(t *testing.T) {
	for n := 1; n <= 64; n++ {
		c := equals(n)
		least := int(council.Quorum(c))
		for _, id := range []api.Hash{none, x} {
			w := newWorld(t, height, c)
			for k := range n {
				w.takes("one more", vote(precommit, 0, id, api.Addr(k+1)))
				yes := k+1 >= least
				want := id
				if !yes {
					want = none
				}
				w.quorum("one more", precommit, 0, want, yes)
				_, e := w.l.Cert(0, x)
				if (e == api.OK) != (yes && id == x) {
					t.Fatalf("T9: %d of %d: error %d", k+1, n, e)
				}
			}
		}
	}
	w := four(t)
	w.takes("two and two", v(0, x, 1), v(0, y, 2), v(0, x, 3), v(0, y, 4))
	w.quorum("two and two", prevote, 0, none, false)
	w = newWorld(t, height, councilOf(1, 1, 8, 1))
	w.takes("the strong one alone", c(2, z, 3))
	w.quorum("the strong one alone", precommit, 2, z, true)
	w.takes("others", c(2, x, 1), c(2, x, 2), c(2, none, 4))
	w.quorum("the strong one still", precommit, 2, z, true)
	w.cert("the strong one alone", 2, z, api.Mark{Index: 2})
	w.noCert("the weak ones", 2, x, api.ErrQuorum)
}

// TestCert: each mark is a member's by its place, with its own time and seal, whatever the order they came in.
func TestCert(t *testing.T) {
	members := []api.Member{{Addr: 7, Power: 2}, {Addr: 9, Power: 2}, {Addr: 300, Power: 1}, {Addr: math.MaxUint64, Power: 3}}
	w := newWorld(t, height, api.Council{Members: members})
	list := []api.Vote{marked(c(3, y, math.MaxUint64), 4), marked(c(3, x, 9), 6), marked(c(3, y, 7), 2), marked(v(3, y, 300), 8), marked(c(3, y, 300), 1), marked(c(2, y, 9), 5)}
	w.takes("in no order", list...)
	w.cert("by rising place", 3, y, api.Mark{Index: 0, Time: 2, Seal: api.Seal{2}}, api.Mark{Index: 2, Time: 1, Seal: api.Seal{1}}, api.Mark{Index: 3, Time: 4, Seal: api.Seal{4}})
	w.votes("by rising address", precommit, 3, list[2], list[1], list[4], list[0])
	w.votes("of the other kind", prevote, 3, list[3])
	w.holds("by round, kind and address", list[5], list[3], list[2], list[1], list[4], list[0])
	w.noCert("too little power", 3, x, api.ErrQuorum)
	w.noCert("too little power", 2, y, api.ErrQuorum)
	w.noCert("too little power, and none", 2, none, api.ErrArg)
	w.enter(6, 0)
	w.cert("at the window's edge", 3, y, api.Mark{Index: 0, Time: 2, Seal: api.Seal{2}}, api.Mark{Index: 2, Time: 1, Seal: api.Seal{1}}, api.Mark{Index: 3, Time: 4, Seal: api.Seal{4}})
	w.enter(7, 0)
	w.noCert("behind the window", 3, y, api.ErrQuorum)
}

// TestAsideMakesNoCert: votes that are held aside make neither a quorum nor a certificate, till their round is in the window.
func TestAsideMakesNoCert(t *testing.T) {
	w := four(t)
	for from := api.Addr(1); from <= 3; from++ {
		w.add("aside", c(4, x, from), far(api.Added{New: true}))
	}
	w.quorum("aside", precommit, 4, none, false)
	w.noCert("aside", 4, x, api.ErrQuorum)
	w.skips("aside", 4, true)
	w.enter(1, 3)
	w.quorum("in the window", precommit, 4, x, true)
	w.cert("in the window", 4, x, api.Mark{Index: 0}, api.Mark{Index: 1}, api.Mark{Index: 2})
}

func TestSkip(t *testing.T) {
	w := newWorld(t, height, councilOf(3, 2, 1, 3)) // 9 in all: more than a third is 4
	w.takes("of the present round", v(0, x, 1), v(0, x, 2), v(0, x, 3), v(0, x, 4))
	w.skips("the present round is none above it", 0, false)
	w.takes("a third", v(1, x, 1))
	w.skips("just a third", 0, false)
	w.takes("a third by both kinds", c(1, y, 1), c(2, x, 1), v(3, x, 1))
	w.skips("a member counts once", 0, false)
	w.takes("one more", c(2, none, 3))
	w.skips("of either kind", 2, true)
	w.add("a far one", v(api.MaxRound, x, 2), far(api.Added{New: true}))
	w.skips("1 in round 3, 2 beyond", 3, true)
	w.add("another far one", c(900, x, 4), far(api.Added{New: true}))
	w.skips("2 and 4", 900, true)
	w.add("a later one of the other kind", v(901, x, 4), far(api.Added{New: true}))
	w.skips("2 and 4, by 4's latest", 901, true)
	w.enter(901, 2)
	w.skips("2 alone is above", 0, false)
	w.add("all above", c(api.MaxRound, x, 1), far(api.Added{New: true}))
	w.skips("to the last round", api.MaxRound, true)
	w.enter(api.MaxRound, 2)
	w.skips("nothing is above the last round", 0, false)
}

// TestSkipAlone: one who is more than a third is followed alone; others' rounds don't hold it back.
func TestSkipAlone(t *testing.T) {
	w := newWorld(t, height, councilOf(2, 3, 2))
	w.takes("a weak one", v(2, x, 1))
	w.skips("a weak one", 0, false)
	w.takes("the strong one", c(1, x, 2))
	w.skips("the strong one, and the weak one above it", 1, true)
	w.takes("the strong one later", v(3, none, 2))
	w.skips("the strong one alone", 3, true)
	w = newWorld(t, height, councilOf(1))
	w.takes("the only one", v(1, x, 1))
	w.skips("the only one", 1, true)
}

// TestSkipGrows: P10.7: behind a round that was entered by Skip the next one is greater.
func TestSkipGrows(t *testing.T) {
	for seed := range int64(30) {
		s := newScene(t, seed)
		skipped := 0
		for range 200 {
			s.addSome()
			r, ok := s.l.Skip()
			if !ok {
				continue
			}
			heard := map[api.Addr]uint64{}
			for _, one := range s.added {
				if one.v.Round >= r {
					heard[one.v.From] = s.powers[one.v.From]
				}
			}
			if r <= s.l.Round() || !more(heard, council.Total(s.council)) {
				t.Fatalf("P10.7: Skip tells %d at %d, where %v were heard", r, s.l.Round(), heard)
			}
			s.enter(r)
			skipped++
			if next, again := s.l.Skip(); again && next <= r {
				t.Fatalf("P10.7: Skip tells %d behind %d", next, r)
			}
		}
		if skipped == 0 {
			t.Errorf("P10.7: the seed %d never skips", seed)
		}
	}
}

// more: have they together more than a third?
func more(powers map[api.Addr]uint64, total uint64) bool {
	var sum uint64
	for _, p := range powers {
		sum += p
	}
	return 3*sum > total
}

// TestOrderIsNothing: P10.3.
func TestOrderIsNothing(t *testing.T) {
	for seed := range int64(40) {
		s := newScene(t, seed)
		var list []api.Vote
		for _, m := range s.council.Members {
			for _, kind := range bothKinds {
				for round := range api.Window + 1 {
					if s.r.Intn(3) > 0 {
						list = append(list, marked(vote(kind, round, s.someId(), m.Addr), byte(s.r.Intn(9))))
					}
				}
			}
		}
		one, two := newWorld(t, height, s.council), newWorld(t, height, s.council)
		for _, w := range []*world{one, two} {
			again := append(slices.Clone(list), list[:len(list)/2]...)
			s.r.Shuffle(len(again), func(i, j int) { again[i], again[j] = again[j], again[i] })
			for _, x := range again {
				if got, e := w.l.Add(x); e != api.OK || got != (api.Added{New: got.New}) {
					t.Fatalf("T2: %v, error %d", got, e)
				}
			}
		}
		slices.SortFunc(list, byHeld)
		one.holds("P10.3", list...)
		two.holds("P10.3", list...)
		round, ok := one.l.Skip()
		two.skips("P10.3", round, ok)
		for _, kind := range bothKinds {
			for round := range api.Window + 2 {
				two.any("P10.3", kind, round, one.l.Any(kind, round))
				id, ok := one.l.Quorum(kind, round)
				two.quorum("P10.3", kind, round, id, ok)
				two.votes("P10.3", kind, round, one.l.Votes(kind, round)...)
				for _, id := range ids {
					two.power("P10.3", kind, round, id, one.l.Power(kind, round, id))
				}
			}
		}
	}
}

// TestBounded: P10.5, with all that can be held.
func TestBounded(t *testing.T) {
	for _, n := range []int{1, 4, 64} {
		w := newWorld(t, height, equals(n))
		w.enter(10, 0)
		for from := 1; from <= n; from++ {
			for round := 0; round <= 40; round++ {
				for _, kind := range bothKinds {
					for _, id := range []api.Hash{x, y, none} {
						w.l.Add(vote(kind, round, id, api.Addr(from)))
					}
				}
			}
		}
		if got, want := len(w.l.Held()), (2*api.Window+1)*2*n+2*n; got != want {
			t.Errorf("P10.5: %d votes of %d members are held, want %d", got, n, want)
		}
		for _, kind := range bothKinds {
			w.any("all of them", kind, 10, uint64(n))
			w.power("the first id of all", kind, 10, x, uint64(n))
		}
	}
}
