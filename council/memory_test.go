package council_test

import (
	"math"
	"math/rand"
	"slices"
	"testing"

	"assent/api"
	"assent/council"
)

// spoil writes over a list and over the room behind it.
func spoil(l []api.Member) {
	l = l[:cap(l)]
	for k := range l {
		l[k] = api.Member{Addr: 99, Power: 99, Priority: 99}
	}
}

// roomy is the same members with room behind them, in which something stands.
func roomy(l []api.Member) []api.Member {
	x := append(slices.Clone(l), api.Member{Addr: 77, Power: 77, Priority: 77}, api.Member{Addr: 78, Power: 78, Priority: 78})
	return x[:len(l)]
}

// TestArgumentsStay: no call changes what it is handed, or the room behind it; and what it answers is its own.
func TestArgumentsStay(t *testing.T) {
	r := rand.New(rand.NewSource(12))
	for range 300 {
		c, l := api.Council{Members: roomy(someSound(r).Members)}, roomy(someList(r))
		wasC, wasL := slices.Clone(c.Members[:cap(c.Members)]), slices.Clone(l[:cap(l)])
		var answers []api.Council
		for _, turns := range []int{0, 1, 5, 0} {
			d, _ := council.Turn(c, turns)
			answers = append(answers, d)
		}
		for range 2 {
			made, _ := council.New(l)
			again, _ := council.New(c.Members)
			renewed, _ := council.Renew(c, l)
			same, _ := council.Renew(c, c.Members)
			answers = append(answers, made, again, renewed, same)
		}
		council.Proposer(c, 3)
		council.Digest(c)
		council.Sound(c)
		council.Total(c)
		council.Quorum(c)
		council.Third(c)
		council.Index(c, 3)
		if !slices.Equal(c.Members[:cap(c.Members)], wasC) || !slices.Equal(l[:cap(l)], wasL) {
			t.Fatalf("G3: a call has changed what it was handed: %v, %v", c, l)
		}
		for k := range answers {
			kept := make([][]api.Member, len(answers))
			for i, a := range answers {
				kept[i] = slices.Clone(a.Members)
			}
			spoil(answers[k].Members)
			for i, a := range answers {
				if i != k && !slices.Equal(a.Members, kept[i]) {
					t.Fatalf("G3: the answers %d and %d share memory", k, i)
				}
			}
		}
		if !slices.Equal(c.Members[:cap(c.Members)], wasC) || !slices.Equal(l[:cap(l)], wasL) {
			t.Fatalf("G3: an answer shares memory with an argument: %v, %v", c, l)
		}
	}
}

// TestAnswersStay: what was answered does not change with the list that was handed in.
func TestAnswersStay(t *testing.T) {
	l, by := roomy(oneTwoThree.members()), roomy(row{{1, 1, 0}, {3, 3, 0}, {4, 4, 0}}.members())
	made := mustNew(t, l)
	none := mustTurn(t, api.Council{Members: l}, 0)
	two := mustTurn(t, api.Council{Members: l}, 2)
	renewed := mustRenew(t, two, by)
	spoil(l)
	spoil(by)
	wantCouncil(t, "G3: New", made, oneTwoThree.members())
	wantCouncil(t, "G3: Turn by 0", none, oneTwoThree.members())
	wantCouncil(t, "G3: Turn by 2", two, row{{1, 1, 2}, {2, 2, -2}, {3, 3, 0}}.members())
	wantCouncil(t, "G3: Renew", renewed, row{{1, 1, 5}, {3, 3, 3}, {4, 4, -6}}.members())
	spoil(two.Members)
	wantCouncil(t, "G3: Renew keeps nothing of the council", renewed, row{{1, 1, 5}, {3, 3, 3}, {4, 4, -6}}.members())
}

// TestNilIsEmpty: nil and empty lists mean the same.
func TestNilIsEmpty(t *testing.T) {
	made := mustNew(t, oneTwoThree.members())
	for _, l := range [][]api.Member{nil, {}, oneTwoThree.members()[:0]} {
		c := api.Council{Members: l}
		wantErr(t, "G1: Sound", council.Sound(c), api.ErrEmpty)
		d, e := council.New(l)
		wantNothing(t, "G1: New", d, e, api.ErrEmpty)
		d, e = council.Turn(c, 1)
		wantNothing(t, "G1: Turn", d, e, api.ErrEmpty)
		d, e = council.Renew(made, l)
		wantNothing(t, "G1: Renew", d, e, api.ErrEmpty)
		d, e = council.Renew(c, oneTwoThree.members())
		wantNothing(t, "G1: Renew", d, e, api.ErrEmpty)
		if council.Index(c, 0) != -1 {
			t.Error("G1: Index")
		}
	}
}

// TestNothingPanics hands every call the least and the greatest numbers.
func TestNothingPanics(t *testing.T) {
	addrs := []api.Addr{0, 1, 2, math.MaxUint64}
	powers := []uint64{0, 1, supply, supply + 1, 1 << 63, math.MaxUint64}
	priorities := []int64{math.MinInt64, -7 * supply, -1, 0, 1, 7 * supply, math.MaxInt64}
	var all []api.Member
	for _, a := range addrs {
		for _, p := range powers {
			for _, q := range priorities {
				all = append(all, api.Member{Addr: a, Power: p, Priority: q})
			}
		}
	}
	lists := [][]api.Member{nil, all, all[:64], make([]api.Member, 100000)}
	for _, m := range all {
		lists = append(lists, []api.Member{m}, []api.Member{m, m}, []api.Member{{Addr: 1, Power: 1, Priority: 7}, m})
	}
	for _, l := range lists {
		c := api.Council{Members: l}
		council.New(l)
		council.Sound(c)
		council.Total(c)
		council.Quorum(c)
		council.Third(c)
		council.Digest(c)
		for _, a := range addrs {
			council.Index(c, a)
		}
		for _, n := range []int{math.MinInt, -1, 0, 1, math.MaxInt} {
			council.Turn(c, n)
			council.Proposer(c, n)
		}
		for _, by := range lists {
			council.Renew(c, by)
			council.Renew(api.Council{Members: by}, l)
		}
	}
}
