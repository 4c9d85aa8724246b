package council_test

import (
	"math"
	"math/rand"
	"slices"
	"testing"

	"assent/api"
	"assent/council"
)

var oneTwoThree = row{{1, 1, 0}, {2, 2, 0}, {3, 3, 0}}

func TestTurnExamples(t *testing.T) {
	c := mustNew(t, oneTwoThree.members())
	for k, p := range [][3]int64{{0, 0, 0}, {1, 2, -3}, {2, -2, 0}, {-3, 0, 3}, {-2, 2, 0}, {-1, -2, 3}, {0, 0, 0}, {1, 2, -3}} {
		wantCouncil(t, "P5.4", mustTurn(t, c, k), row{{1, 1, p[0]}, {2, 2, p[1]}, {3, 3, p[2]}}.members())
	}
	for round, want := range []api.Addr{3, 2, 1, 3, 2, 3, 3, 2, 1} {
		if a := mustProposer(t, c, round); a != want {
			t.Errorf("P5.5: round %d: %d, want %d", round, a, want)
		}
	}
}

func TestTurnsAndRoundsRefused(t *testing.T) {
	c := mustNew(t, oneTwoThree.members())
	for _, n := range []int{-1, 65537, math.MaxInt, math.MinInt, -65536, 1 << 32, 1<<32 + 1} {
		d, e := council.Turn(c, n)
		wantNothing(t, "P5.4", d, e, api.ErrArg)
		a, e := council.Proposer(c, n)
		wantErr(t, "P5.5", e, api.ErrArg)
		if a != 0 {
			t.Errorf("P5.5: round %d: %d beside an error", n, a)
		}
	}
	_, e := council.Proposer(c, 65536)
	wantErr(t, "P5.5: round 65536", e, api.ErrArg)
	wantCouncil(t, "P5.4: 65536 turns are 4 beyond a multiple of 6", mustTurn(t, c, 65536), row{{1, 1, -2}, {2, 2, 2}, {3, 3, 0}}.members())
	if a := mustProposer(t, c, 65535); a != 3 {
		t.Errorf("P5.5: round 65535: %d", a)
	}
}

// TestTurnAtTheBounds: priorities go neither above 7 T nor below -7 T.
func TestTurnAtTheBounds(t *testing.T) {
	const half = supply / 2 // twice it is supply - 1
	for _, x := range []struct{ from, to row }{
		{row{{1, 1, 7}, {2, 1, 14}}, row{{1, 1, 8}, {2, 1, 12}}},
		{row{{1, 3, 27}, {2, 1, 28}}, row{{1, 3, 24}, {2, 1, 28}}}, // both are at 28 then: the least address
		{row{{1, 3, 27}, {2, 1, 26}}, row{{1, 3, 24}, {2, 1, 27}}},
		{row{{1, 2, 35}, {2, 3, 35}}, row{{1, 2, 30}, {2, 3, 35}}},
		{row{{1, 2, 33}, {2, 3, 31}}, row{{1, 2, 30}, {2, 3, 34}}},
		{row{{1, 1, -7}}, row{{1, 1, -7}}},
		{row{{1, 1, 7}}, row{{1, 1, 6}}}, // up by 1 would be 8: it stays at 7, and goes down
		{row{{1, 3, -28}, {2, 1, -28}}, row{{1, 3, -28}, {2, 1, -27}}},
		{row{{1, 1, -28}, {2, 3, -28}}, row{{1, 1, -27}, {2, 3, -28}}},
		{row{{1, 1, -27}, {2, 3, -28}}, row{{1, 1, -26}, {2, 3, -28}}},
		{row{{1, supply, 7 * supply}}, row{{1, supply, 6 * supply}}},
		{row{{1, supply, -7 * supply}}, row{{1, supply, -7 * supply}}},
		{row{{1, half, 14 * half}, {2, half, 14 * half}}, row{{1, half, 12 * half}, {2, half, 14 * half}}},
		{row{{1, half, -14 * half}, {2, half, -14 * half}}, row{{1, half, -14 * half}, {2, half, -13 * half}}},
		{row{{1, half, 14 * half}, {2, half, -14 * half}}, row{{1, half, 12 * half}, {2, half, -13 * half}}},
	} {
		wantCouncil(t, "P5.4", mustTurn(t, x.from.council(), 1), x.to.members())
	}
}

func TestLeastAddressOfSeveral(t *testing.T) {
	c := mustNew(t, row{{5, 2, 0}, {7, 2, 0}, {-1, 2, 0}}.members())
	for round, want := range []api.Addr{5, 7, math.MaxUint64, 5, 7, math.MaxUint64} {
		if a := mustProposer(t, c, round); a != want {
			t.Errorf("P5.5: round %d: %d, want %d", round, a, want)
		}
	}
}

// TestTurnsByTheModel: turns of any sound council, made or not, and who is chosen.
func TestTurnsByTheModel(t *testing.T) {
	r := rand.New(rand.NewSource(5))
	for range 300 {
		c := someSound(r)
		if r.Intn(2) == 0 {
			c = someMade(t, r)
		}
		now := slices.Clone(c.Members)
		for k := range 12 {
			wantCouncil(t, "P5.4", mustTurn(t, c, k), now)
			after, chosen := modelTurn(now)
			if a := mustProposer(t, c, k); a != chosen {
				t.Errorf("P5.5: %v, round %d: %d, want %d", c, k, a, chosen)
			}
			now = after
		}
		if t.Failed() {
			t.Fatalf("of %v", c)
		}
	}
}

func TestTurnsInPieces(t *testing.T) {
	r := rand.New(rand.NewSource(6))
	for range 150 {
		c := someSound(r)
		a, b := r.Intn(400), r.Intn(400)
		wantCouncil(t, "P5.8: in two pieces", mustTurn(t, mustTurn(t, c, a), b), mustTurn(t, c, a+b).Members)
		if mustProposer(t, c, a) != mustProposer(t, mustTurn(t, c, a), 0) {
			t.Fatalf("P5.8: %v: round %d", c, a)
		}
	}
	c := someSound(r)
	wantCouncil(t, "P5.8: MaxTurns", mustTurn(t, mustTurn(t, c, 65000), 536), mustTurn(t, c, 65536).Members)
	if mustProposer(t, c, api.MaxRound) != mustProposer(t, mustTurn(t, c, api.MaxRound), 0) {
		t.Error("P5.8: the round MaxRound")
	}
}

// chosenBy is who is chosen in each of so many turns from c on, and the councils ahead of each and behind the last.
func chosenBy(t *testing.T, c api.Council, turns int) ([]int, []api.Council) {
	t.Helper()
	var who []int
	councils := []api.Council{c}
	for range turns {
		who = append(who, council.Index(c, mustProposer(t, c, 0)))
		c = mustTurn(t, c, 1)
		councils = append(councils, c)
	}
	return who, councils
}

func wantShares(t *testing.T, l []api.Member, turns int) {
	t.Helper()
	made := mustNew(t, l)
	who, councils := chosenBy(t, made, turns)
	total := int64(council.Total(made))
	chosen := make([]int64, len(l))
	for k, c := range councils {
		for i, m := range c.Members {
			if m.Priority != int64(k)*int64(m.Power)-chosen[i]*total {
				t.Fatalf("P5.10: %v behind %d turns: %v; chosen %v", l, k, c, chosen)
			}
			if m.Priority <= -total || 4*m.Priority > 15*total {
				t.Fatalf("P5.10: %v behind %d turns: the priority %d", l, k, m.Priority)
			}
			if int64(k) == total && (m.Priority != 0 || chosen[i] != int64(m.Power)) {
				t.Fatalf("P5.10: %v behind T turns: %v; chosen %v", l, c, chosen)
			}
		}
		if k < len(who) {
			chosen[who[k]]++
		}
	}
}

func TestExactShares(t *testing.T) {
	wantShares(t, oneTwoThree.members(), 13)
	wantShares(t, row{{9, 1, 0}}.members(), 3)
	wantShares(t, equals(64, 1), 200)
	wantShares(t, equals(64, 3), 200)
	wantShares(t, row{{1, 1, 0}, {2, 1, 0}, {3, 1, 0}, {4, 997, 0}}.members(), 1100)
	r := rand.New(rand.NewSource(7))
	for range 40 {
		l := equals(1+r.Intn(64), 0)
		for k := range l {
			l[k].Power = 1 + uint64(r.Intn(1<<r.Intn(7)))
		}
		wantShares(t, l, int(modelTotal(l).Int64())+3)
	}
	big := row{{1, 1, 0}, {2, 2, 0}, {3, 65533, 0}}.members()
	wantCouncil(t, "P5.10: T is MaxTurns", mustTurn(t, mustNew(t, big), 65536), big)
}

// TestNobodyWaitsForEver: who is not chosen among 11 n turns running has, together, no more than two thirds of T. That says it of all sets of members at once.
func TestNobodyWaitsForEver(t *testing.T) {
	r := rand.New(rand.NewSource(8))
	for range 60 {
		c := someMade(t, r)
		n := len(c.Members)
		who, _ := chosenBy(t, c, 14*n)
		quorum := council.Quorum(c)
		for from := 0; from+11*n <= len(who); from++ {
			times := make([]int, n)
			for _, k := range who[from : from+11*n] {
				times[k]++
			}
			var waiting uint64
			for k, m := range c.Members {
				if times[k] == 0 {
					waiting += m.Power
				}
			}
			if waiting >= quorum {
				t.Fatalf("P5.11: %v: from turn %d on a power of %d waits", c, from, waiting)
			}
		}
	}
}
