package tally_test

import (
	"math"
	"testing"

	"assent/api"
)

// TestAddRefuses: the errors, and which comes first.
func TestAddRefuses(t *testing.T) {
	w := four(t)
	w.takes("to begin", v(0, x, 1), c(2, y, 3))
	with := func(kind, round int, h uint64, from api.Addr) api.Vote {
		return api.Vote{Kind: kind, Height: h, Round: round, Id: x, From: from}
	}
	for _, kind := range []int{0, 3, 4, -1, 257, math.MaxInt, math.MinInt} {
		w.refuses("a kind that is none", with(kind, 0, height, 1), api.ErrArg)
		w.refuses("a kind that is none, of another height", with(kind, 0, 4, 1), api.ErrArg)
		w.refuses("a kind that is none, of another height and nobody", with(kind, 0, 4, 0), api.ErrArg)
	}
	for _, kind := range bothKinds {
		for _, round := range []int{-1, -4, api.MaxRound + 1, math.MaxInt, math.MinInt} {
			w.refuses("a round that is none", with(kind, round, height, 1), api.ErrArg)
			w.refuses("a round that is none, of another height", with(kind, round, 6, 1), api.ErrArg)
			w.refuses("a round that is none, of another height and nobody", with(kind, round, 6, 9), api.ErrArg)
		}
		for _, h := range []uint64{0, 4, 6, api.MaxHeight + 1, math.MaxUint64} {
			for _, round := range []int{0, 3, 4, api.MaxRound} {
				w.refuses("another height", with(kind, round, h, 1), api.ErrOther)
				w.refuses("another height, of nobody", with(kind, round, h, 0), api.ErrOther)
			}
		}
		for _, from := range []api.Addr{0, 5, 9, math.MaxUint64} {
			for _, round := range []int{0, 3, 4, api.MaxRound} {
				w.refuses("no member", with(kind, round, height, from), api.ErrMember)
			}
		}
	}
	w.enter(20, 0)
	w.refuses("no member, of an old round", v(0, x, 9), api.ErrMember)
	w.refuses("another height, of an old round", with(1, 0, 4, 1), api.ErrOther)
}

// TestWindow: what becomes of a vote, by its round, wherever the present round is.
func TestWindow(t *testing.T) {
	for _, present := range []int{0, 1, 2, 3, 4, 5, 100, api.MaxRound - 4, api.MaxRound - 3, api.MaxRound - 2, api.MaxRound - 1, api.MaxRound} {
		for delta := -6; delta <= 6; delta++ {
			round := present + delta
			if round < 0 || round > api.MaxRound {
				continue
			}
			for _, kind := range bothKinds {
				w := four(t)
				w.enter(present, 0)
				one := vote(kind, round, x, 3)
				counts := uint64(0)
				switch {
				case delta < -3:
					w.add("below the window", one, api.Added{Old: true})
					w.add("below the window, again", one, api.Added{Old: true})
					w.add("below the window, another", vote(kind, round, y, 3), api.Added{Old: true})
					w.holds("below the window")
				case delta > 3:
					w.add("above the window", one, far(api.Added{New: true}))
					w.add("above the window, again", one, far(api.Added{}))
					w.add("above the window, another", vote(kind, round, y, 3), far(both(one, vote(kind, round, y, 3))))
					w.holds("above the window", one)
				default:
					counts = 1
					w.takes("in the window", one)
					w.add("in the window, again", one, api.Added{})
					w.add("in the window, another", vote(kind, round, y, 3), both(one, vote(kind, round, y, 3)))
					w.holds("in the window", one)
				}
				w.any("by its round", kind, round, counts)
				w.power("by its round", kind, round, x, counts)
				w.power("another id", kind, round, y, 0)
				w.any("the other kind", 3-kind, round, 0)
				if len(w.l.Votes(kind, round)) != int(counts) {
					t.Errorf("T8: of round %d at %d: %v", round, present, w.l.Votes(kind, round))
				}
			}
		}
	}
}

// TestFirstStays: the one that is held stays, its Time and Seal and all, whatever comes at its place.
func TestFirstStays(t *testing.T) {
	for _, kind := range bothKinds {
		for _, round := range []int{0, 2, 3, 4, 9} {
			w := four(t)
			first := marked(vote(kind, round, y, 2), 7)
			up := func(a api.Added) api.Added {
				a.Far = round > 3
				return a
			}
			w.add("the first", first, up(api.Added{New: true}))
			for _, mark := range []byte{7, 8, 0} {
				w.add("the same id", marked(vote(kind, round, y, 2), mark), up(api.Added{}))
				below, above := marked(vote(kind, round, x, 2), mark), marked(vote(kind, round, z, 2), mark)
				empty := marked(vote(kind, round, none, 2), mark)
				w.add("a lesser id", below, up(both(below, first)))
				w.add("a greater id", above, up(both(first, above)))
				w.add("no block", empty, up(both(empty, first)))
				w.holds("the first stays", first)
			}
			w.add("the other kind is another place", vote(3-kind, round, x, 2), up(api.Added{New: true}))
			w.add("another member", vote(kind, round, x, 1), up(api.Added{New: true}))
		}
	}
	w := four(t)
	empty := marked(v(1, none, 4), 9)
	w.takes("none is an id like others", empty)
	w.add("none again", v(1, none, 4), api.Added{})
	w.add("against none", v(1, x, 4), both(empty, v(1, x, 4)))
	w.holds("none stays", empty)
}

// TestIdsByteByByte: A has the lesser Id, byte by byte from the first on, whichever came first.
func TestIdsByteByByte(t *testing.T) {
	ids := []api.Hash{{}, {31: 1}, {31: 255}, {30: 1}, {0: 1}, {0: 1, 31: 1}, {0: 127}, {0: 128}, {0: 255}, {0: 255, 1: 1}}
	for i, low := range ids {
		for _, high := range ids[i+1:] {
			w := four(t)
			w.takes("the lesser first", v(0, low, 1))
			w.add("the greater comes", v(0, high, 1), both(v(0, low, 1), v(0, high, 1)))
			w.takes("the greater first", v(0, high, 2))
			w.add("the lesser comes", v(0, low, 2), both(v(0, low, 2), v(0, high, 2)))
		}
	}
}

// TestAside: of each member and kind the latest alone; what is held in the window is not touched by it.
func TestAside(t *testing.T) {
	w := four(t)
	isNew, isNothing := far(api.Added{New: true}), far(api.Added{})
	w.takes("in the window", v(3, x, 2), c(3, y, 2))
	w.add("the first aside", v(5, x, 2), isNew)
	w.holds("both", v(3, x, 2), c(3, y, 2), v(5, x, 2))
	w.add("a lesser one", v(4, y, 2), isNothing)
	w.add("of another kind", c(4, y, 2), isNew)
	w.add("of another member", v(4, y, 3), isNew)
	w.add("a greater one", v(api.MaxRound, y, 2), isNew)
	w.add("what it was held for is free no more", v(5, y, 2), isNothing)
	w.holds("aside", v(3, x, 2), c(3, y, 2), v(4, y, 3), c(4, y, 2), v(api.MaxRound, y, 2))
	w.add("one that contradicts it", v(api.MaxRound, x, 2), far(both(v(api.MaxRound, x, 2), v(api.MaxRound, y, 2))))
	w.holds("aside", v(3, x, 2), c(3, y, 2), v(4, y, 3), c(4, y, 2), v(api.MaxRound, y, 2))
	w.enter(1, 2)
	w.holds("two have come in", v(3, x, 2), c(3, y, 2), v(4, y, 3), c(4, y, 2), v(api.MaxRound, y, 2))
	w.add("it counts now", v(4, x, 3), both(v(4, x, 3), v(4, y, 3)))
	w.takes("what was not held aside", v(4, z, 2))
	w.add("aside behind one in the window", c(5, z, 2), isNew)
	w.add("a greater one", c(6, z, 2), isNew)
	w.holds("the one in the window stays", v(3, x, 2), c(3, y, 2), v(4, z, 2), v(4, y, 3), c(4, y, 2), c(6, z, 2), v(api.MaxRound, y, 2))
}

// TestEnter: what is let go and what comes in, at every distance.
func TestEnter(t *testing.T) {
	for by := 0; by <= 12; by++ {
		w := four(t)
		w.enter(10, 0)
		all := []api.Vote{}
		for round := 7; round <= 13; round++ {
			for _, kind := range bothKinds {
				all = append(all, marked(vote(kind, round, x, 1), byte(round)))
			}
		}
		w.takes("in the window", all...)
		aside := []api.Vote{v(14, x, 2), c(14, x, 1), v(16, y, 1), c(17, none, 4), v(20, x, 3), c(22, y, 3)}
		for _, one := range aside {
			w.add("aside", one, far(api.Added{New: true}))
		}
		var want []api.Vote
		come := 0
		for _, one := range append(all, aside...) {
			if one.Round >= 10+by-3 {
				want = append(want, one)
			}
			if one.Round > 13 && one.Round >= 10+by-3 && one.Round <= 10+by+3 {
				come++
			}
		}
		w.enter(10+by, come)
		w.holds("behind Enter", want...)
		for _, one := range want {
			counts := uint64(0)
			if one.Round <= 10+by+3 {
				counts = 1
			}
			w.power("behind Enter", one.Kind, one.Round, one.Id, counts)
		}
		w.enter(10+by, 0)
		w.holds("entered again", want...)
		w.add("below", v(10+by-4, z, 3), api.Added{Old: true})
		for _, round := range []int{10 + by - 1, 9, 0, -1, math.MinInt, api.MaxRound + 1, math.MaxInt} {
			w.wantEnterRefused(round)
		}
		w.enter(api.MaxRound, 0)
		w.holds("at the end")
		w.wantEnterRefused(10 + by)
	}
}

// TestLastRound: at MaxRound nothing is above the window.
func TestLastRound(t *testing.T) {
	w := four(t)
	last := c(api.MaxRound, x, 1)
	w.add("aside", last, far(api.Added{New: true}))
	w.enter(api.MaxRound-4, 0)
	w.any("still aside", precommit, api.MaxRound, 0)
	w.enter(api.MaxRound-3, 1)
	w.any("in the window", precommit, api.MaxRound, 1)
	w.enter(api.MaxRound, 0)
	w.takes("the last round", c(api.MaxRound, x, 2), c(api.MaxRound, x, 3), c(api.MaxRound-3, y, 1))
	w.cert("of the last round", api.MaxRound, x, api.Mark{Index: 0}, api.Mark{Index: 1}, api.Mark{Index: 2})
	w.skips("nothing is above", 0, false)
	w.enter(api.MaxRound, 0)
	w.holds("at the end", c(api.MaxRound-3, y, 1), last, c(api.MaxRound, x, 2), c(api.MaxRound, x, 3))
	w.wantEnterRefused(api.MaxRound + 1)
	w.refuses("beyond the end", c(api.MaxRound+1, x, 1), api.ErrArg)
}
