package council_test

import (
	"math"
	"math/big"
	"math/rand"
	"slices"
	"testing"

	"assent/api"
	"assent/council"
)

func TestRenewExamples(t *testing.T) {
	const half = supply / 2 // twice it is supply - 1
	for _, x := range []struct{ from, by, to row }{
		{row{{1, 1, 2}, {2, 2, -2}, {3, 3, 0}}, row{{1, 1, 0}, {3, 3, 0}, {4, 4, 0}}, row{{1, 1, 5}, {3, 3, 3}, {4, 4, -6}}},
		{row{{1, 100, 100}, {2, 100, -100}}, row{{1, 1, 0}, {2, 1, 0}}, row{{1, 1, 2}, {2, 1, -2}}},
		{row{{1, 100, 101}, {2, 100, -100}}, row{{1, 1, 0}, {2, 1, 0}}, row{{1, 1, 1}, {2, 1, -1}}},
		{row{{1, 7, 5}}, row{{1, 9, 0}}, row{{1, 9, 0}}},
		{row{{1, 7, 5}}, row{{2, 9, 0}}, row{{2, 9, 0}}},
		{row{{1, 7, -49}}, row{{1, 1, 0}}, row{{1, 1, 0}}},
		{row{{1, supply, 7 * supply}}, row{{1, 1, 0}}, row{{1, 1, 0}}},
		// two totals apart: nothing is divided; one more: by 2
		{row{{1, 50, 4}, {2, 50, -4}}, row{{1, 2, 0}, {2, 2, 0}}, row{{1, 2, 4}, {2, 2, -4}}},
		{row{{1, 50, 5}, {2, 50, -4}}, row{{1, 2, 0}, {2, 2, 0}}, row{{1, 2, 2}, {2, 2, -2}}},
		{row{{1, 50, 9}, {2, 50, -7}}, row{{1, 2, 0}, {2, 2, 0}}, row{{1, 2, 4}, {2, 2, -3}}}, // 9/2 and -7/2, toward zero: 4 and -3; their sum is 1, half of it rounded down 0
		{row{{1, 50, 9}, {2, 50, -8}}, row{{1, 2, 0}, {2, 2, 0}}, row{{1, 2, 3}, {2, 2, -2}}}, // 17 by 8, rounded up 3: 3 and -2
		// the sum is rounded down, below 0 too
		{row{{1, 10, 0}, {2, 10, -1}, {3, 10, 0}}, row{{1, 10, 0}, {2, 10, 0}, {3, 10, 0}}, row{{1, 10, 1}, {2, 10, 0}, {3, 10, 1}}},
		{row{{1, 10, 0}, {2, 10, 2}, {3, 10, 0}}, row{{1, 10, 0}, {2, 10, 0}, {3, 10, 0}}, row{{1, 10, 0}, {2, 10, 2}, {3, 10, 0}}},
		{row{{1, 10, 1}, {2, 10, 2}, {3, 10, 0}}, row{{1, 10, 0}, {2, 10, 0}, {3, 10, 0}}, row{{1, 10, 0}, {2, 10, 1}, {3, 10, -1}}},
		// T/8 is rounded down: T is 15, a new one begins at -16; 8: at -9
		{row{{1, 10, 0}}, row{{1, 10, 0}, {2, 5, 0}}, row{{1, 10, 8}, {2, 5, -8}}},
		{row{{1, 3, 0}}, row{{1, 3, 0}, {2, 4, 0}}, row{{1, 3, 4}, {2, 4, -3}}}, // 7: at -7, whose half, rounded down, is -4
		{row{{1, 3, 0}}, row{{1, 3, 0}, {2, 5, 0}}, row{{1, 3, 5}, {2, 5, -4}}},
		// all are new: all at one place
		{row{{1, 3, 1}, {2, 3, -1}}, row{{3, 5, 0}, {4, 5, 0}}, row{{3, 5, 0}, {4, 5, 0}}},
		// the ends: d needs 64 bits without a sign
		{row{{1, half, 14 * half}, {2, half, -14 * half}}, row{{1, half, 0}, {2, half, 0}}, row{{1, half, 2 * half}, {2, half, -2 * half}}},
		{row{{1, half, 14 * half}, {2, half, -14 * half}}, row{{1, 1, 0}, {2, 1, 0}}, row{{1, 1, 2}, {2, 1, -2}}},
		{row{{1, half, 14 * half}, {2, half, -14 * half}}, row{{2, half, 0}}, row{{2, half, 0}}},
	} {
		wantCouncil(t, "P5.6", mustRenew(t, x.from.council(), x.by.members()), x.to.members())
		for _, p := range []int64{1, math.MaxInt64, math.MinInt64} {
			wantCouncil(t, "P5.6: the list's priorities are not looked at", mustRenew(t, x.from.council(), withPriorities(x.by.members(), p)), x.to.members())
		}
	}
}

func TestRenewRefuses(t *testing.T) {
	made := mustNew(t, oneTwoThree.members())
	for _, x := range wrongLists {
		d, e := council.Renew(made, x.l)
		wantNothing(t, "P5.6: by "+x.what, d, e, x.want)
		d, e = council.Renew(row{{1, 1, 8}}.council(), x.l)
		wantNothing(t, "P5.6: the council first, then "+x.what, d, e, api.ErrArg)
	}
}

// TestSumOfManyPriorities: 64 priorities at one end are together more than 64 bits hold.
func TestSumOfManyPriorities(t *testing.T) {
	for _, side := range []int64{1, -1} {
		from := equals(64, supply/64)
		bound := side * times(7, modelTotal(from)).Int64()
		for k := range from {
			from[k].Priority = bound - side*int64(k)
		}
		got := mustRenew(t, api.Council{Members: from}, from)
		for k, m := range got.Members {
			want := side * int64(31-k) // the priorities are 63 in a row: their average is 31 and a half from the end
			if side > 0 {
				want++
			}
			if m.Priority != want {
				t.Errorf("P5.6: side %d, member %d: %d, want %d", side, k, m.Priority, want)
			}
		}
	}
}

func TestRenewByTheModel(t *testing.T) {
	r := rand.New(rand.NewSource(9))
	for range 20000 {
		c, l := someSound(r), someMembers(r)
		if r.Intn(4) == 0 { // its own members, with the same powers or others
			l = slices.Clone(c.Members)
			for k, p := range somePowers(r, len(l)) {
				if r.Intn(2) == 0 {
					break
				}
				l[k].Power = min(p, l[k].Power)
			}
		}
		wantCouncil(t, "P5.6", mustRenew(t, c, l), modelRenew(c.Members, l))
		if t.Failed() {
			t.Fatalf("of %v by %v", c, l)
		}
	}
}

func TestRenewTwice(t *testing.T) {
	r := rand.New(rand.NewSource(10))
	for range 5000 {
		c, l := someSound(r), someMembers(r)
		once := mustRenew(t, c, l)
		wantCouncil(t, "P5.13: twice", mustRenew(t, once, l), once.Members)
		wantCouncil(t, "P5.13: by its own members", mustRenew(t, once, once.Members), once.Members)
		if t.Failed() {
			t.Fatalf("of %v by %v", c, l)
		}
	}
	edge := row{{1, 3, 7}, {2, 2, -3}, {3, 1, -2}}.council() // T is 6; 10 apart; the sum is 2, one below the number of members
	wantCouncil(t, "P5.13: at the edges", mustRenew(t, edge, edge.Members), edge.Members)
	edge = row{{1, 3, 8}, {2, 2, -4}, {3, 1, -4}}.council() // just 2 T apart; the sum is 0
	wantCouncil(t, "P5.13: at the edges", mustRenew(t, edge, edge.Members), edge.Members)
}

func wantBounds(t *testing.T, c api.Council) {
	t.Helper()
	wantErr(t, "P5.9: a made council is sound", council.Sound(c), api.OK)
	total := modelTotal(c.Members)
	for _, m := range c.Members {
		p := whole(m.Priority)
		if p.Cmp(times(-2, total)) < 0 || times(4, p).Cmp(times(23, total)) > 0 {
			t.Fatalf("P5.9: %v has the priority %d", c, m.Priority)
		}
	}
	s := modelSum(c.Members)
	if s.Sign() < 0 || s.Cmp(big.NewInt(int64(len(c.Members)))) >= 0 {
		t.Fatalf("P5.9: the sum of %v is %d", c, s)
	}
}

// TestBounds goes from made council to made council, with powers that change by much.
func TestBounds(t *testing.T) {
	r := rand.New(rand.NewSource(11))
	for range 60 {
		c := mustNew(t, someMembers(r))
		wantBounds(t, c)
		for range 60 {
			switch r.Intn(4) {
			case 0:
				c = mustRenew(t, c, someMembers(r))
			case 1:
				l := slices.Clone(c.Members)
				for k, p := range somePowers(r, len(l)) {
					l[k].Power = p
				}
				c = mustRenew(t, c, l)
			default:
				s := modelSum(c.Members)
				c = mustTurn(t, c, r.Intn(100))
				if modelSum(c.Members).Cmp(s) != 0 {
					t.Fatalf("P5.9: a turn has changed the sum: %v", c)
				}
			}
			wantBounds(t, c)
		}
	}
}
