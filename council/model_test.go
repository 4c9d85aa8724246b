package council_test

import (
	"math"
	"math/big"
	"math/rand"
	"slices"
	"testing"

	"assent/api"
	"assent/council"
)

// The model reckons what the chapter's words say by whole numbers of any size, without looking at how the package does it.

func whole(n int64) *big.Int { return big.NewInt(n) }

func natural(n uint64) *big.Int { return new(big.Int).SetUint64(n) }

func times(n int64, x *big.Int) *big.Int { return new(big.Int).Mul(whole(n), x) }

func sum(x, y *big.Int) *big.Int { return new(big.Int).Add(x, y) }

func less(x, y *big.Int) *big.Int { return new(big.Int).Sub(x, y) }

func greater(x, y *big.Int) *big.Int {
	if x.Cmp(y) >= 0 {
		return x
	}
	return y
}

func smaller(x, y *big.Int) *big.Int {
	if x.Cmp(y) <= 0 {
		return x
	}
	return y
}

func modelTotal(l []api.Member) *big.Int {
	t := whole(0)
	for _, m := range l {
		t = sum(t, natural(m.Power))
	}
	return t
}

func modelSum(l []api.Member) *big.Int {
	s := whole(0)
	for _, m := range l {
		s = sum(s, whole(m.Priority))
	}
	return s
}

func modelMembers(l []api.Member) api.Errno {
	if len(l) == 0 {
		return api.ErrEmpty
	}
	if len(l) > 64 {
		return api.ErrBig
	}
	for k, m := range l {
		if m.Addr == 0 {
			return api.ErrNobody
		}
		if k > 0 && l[k-1].Addr >= m.Addr {
			return api.ErrDouble
		}
		if m.Power < 1 || m.Power >= 1<<60 {
			return api.ErrPower
		}
	}
	if modelTotal(l).Cmp(natural(1<<60-1)) > 0 {
		return api.ErrTotal
	}
	return api.OK
}

func modelSound(l []api.Member) api.Errno {
	if e := modelMembers(l); e != api.OK {
		return e
	}
	t := modelTotal(l)
	for _, m := range l {
		if whole(m.Priority).Cmp(times(-7, t)) < 0 || whole(m.Priority).Cmp(times(7, t)) > 0 {
			return api.ErrArg
		}
	}
	return api.OK
}

// modelTurn is the members behind a turn, and who is chosen in it.
func modelTurn(l []api.Member) ([]api.Member, api.Addr) {
	t := modelTotal(l)
	after := slices.Clone(l)
	best := 0
	for k, m := range after {
		after[k].Priority = smaller(sum(whole(m.Priority), natural(m.Power)), times(7, t)).Int64()
		if after[k].Priority > after[best].Priority {
			best = k
		}
	}
	after[best].Priority = greater(less(whole(after[best].Priority), t), times(-7, t)).Int64()
	return after, after[best].Addr
}

func modelRenew(old, list []api.Member) []api.Member {
	t := modelTotal(list)
	late := new(big.Int).Neg(sum(t, new(big.Int).Quo(t, whole(8))))
	priorities := make([]*big.Int, len(list))
	for k, m := range list {
		priorities[k] = late
		for _, o := range old {
			if o.Addr == m.Addr {
				priorities[k] = whole(o.Priority)
			}
		}
	}
	d := less(slices.MaxFunc(priorities, (*big.Int).Cmp), slices.MinFunc(priorities, (*big.Int).Cmp))
	if most := times(2, t); d.Cmp(most) > 0 {
		r, rest := new(big.Int).QuoRem(d, most, whole(0))
		if rest.Sign() != 0 {
			r = sum(r, whole(1))
		}
		for k, p := range priorities {
			priorities[k] = new(big.Int).Quo(p, r)
		}
	}
	s := whole(0)
	for _, p := range priorities {
		s = sum(s, p)
	}
	a := new(big.Int).Div(s, whole(int64(len(list)))) // by a number above 0 Div rounds down
	after := slices.Clone(list)
	for k, p := range priorities {
		after[k].Priority = less(p, a).Int64()
	}
	return after
}

// somePowers are n powers that are together at most MaxSupply: small ones, great ones, or both.
func somePowers(r *rand.Rand, n int) []uint64 {
	l := make([]uint64, n)
	most := uint64(api.MaxSupply) / uint64(n)
	for k := range l {
		switch r.Intn(4) {
		case 0:
			l[k] = 1 + uint64(r.Intn(5))
		case 1:
			l[k] = 1 + uint64(r.Int63())%(most>>r.Intn(50))
		case 2:
			l[k] = most
		case 3:
			l[k] = most - uint64(r.Intn(3))
		}
		if k > 0 && r.Intn(2) == 0 {
			l[k] = l[k-1]
		}
	}
	return l
}

// someMembers are up to 64 members of a sound council: with addresses that are often the same ones, and priorities 0.
func someMembers(r *rand.Rand) []api.Member {
	n := []int{1, 2, 3, 4, 7, 1 + r.Intn(64), 64}[r.Intn(7)]
	var addrs []api.Addr
	for len(addrs) < n {
		for range n {
			addrs = append(addrs, []api.Addr{api.Addr(1 + r.Intn(2*n)), api.Addr(1 + r.Intn(2*n)), api.Addr(r.Uint64() | 1), math.MaxUint64}[r.Intn(4)])
		}
		slices.Sort(addrs)
		addrs = slices.Compact(addrs)
	}
	addrs = addrs[:n]
	l := make([]api.Member, n)
	for k, p := range somePowers(r, n) {
		l[k] = api.Member{Addr: addrs[k], Power: p}
	}
	return l
}

// someSound is a sound council, made or not: its priorities are anywhere between the bounds, and often at them.
func someSound(r *rand.Rand) api.Council {
	l := someMembers(r)
	bound := times(7, modelTotal(l)).Int64()
	side := int64(1 - 2*r.Intn(2))
	for k := range l {
		switch r.Intn(5) {
		case 0:
			l[k].Priority = side * bound
		case 1:
			l[k].Priority = -side * bound
		case 2:
			l[k].Priority = r.Int63n(bound+1) * int64(1-2*r.Intn(2))
		case 3:
			l[k].Priority = side * (bound - r.Int63n(min(bound, 100)))
		}
	}
	if r.Intn(3) == 0 { // all at one end: then their sum is greatest
		for k := range l {
			l[k].Priority = side * bound
		}
	}
	return api.Council{Members: l}
}

// someMade is a made council: New, and then turns and renewals.
func someMade(t *testing.T, r *rand.Rand) api.Council {
	t.Helper()
	c := mustNew(t, someMembers(r))
	for range r.Intn(8) {
		if r.Intn(2) == 0 {
			c = mustTurn(t, c, r.Intn(200))
		} else {
			c = mustRenew(t, c, someMembers(r))
		}
	}
	return c
}

// someList has anything in it that may be wrong with a list of members.
func someList(r *rand.Rand) []api.Member {
	l := someSound(r).Members
	for range r.Intn(3) {
		m := &l[r.Intn(len(l))]
		switch r.Intn(6) {
		case 0:
			m.Addr = api.Addr(r.Intn(3))
		case 1:
			m.Power = []uint64{0, api.MaxSupply, api.MaxSupply + 1, 1 << 63, math.MaxUint64}[r.Intn(5)]
		case 2:
			m.Priority = []int64{math.MinInt64, math.MinInt64 + 1, math.MaxInt64, m.Priority + 1, m.Priority - 1}[r.Intn(5)]
		case 3:
			l = append(l, l[r.Intn(len(l))])
		case 4:
			l = slices.Concat(l, l)
		case 5:
			l = l[:r.Intn(len(l))+r.Intn(2)]
		}
		if len(l) == 0 {
			break
		}
	}
	return l
}

func wantErr(t *testing.T, what string, got, want api.Errno) {
	t.Helper()
	if got != want {
		t.Errorf("%s: error %d, want %d", what, got, want)
	}
}

func mustNew(t *testing.T, l []api.Member) api.Council {
	t.Helper()
	c, e := council.New(l)
	if e != api.OK {
		t.Fatalf("P5.2: New(%v): error %d", l, e)
	}
	return c
}

func mustTurn(t *testing.T, c api.Council, turns int) api.Council {
	t.Helper()
	d, e := council.Turn(c, turns)
	if e != api.OK {
		t.Fatalf("P5.4: Turn(%v, %d): error %d", c, turns, e)
	}
	return d
}

func mustRenew(t *testing.T, c api.Council, l []api.Member) api.Council {
	t.Helper()
	d, e := council.Renew(c, l)
	if e != api.OK {
		t.Fatalf("P5.6: Renew(%v, %v): error %d", c, l, e)
	}
	return d
}

func mustProposer(t *testing.T, c api.Council, round int) api.Addr {
	t.Helper()
	a, e := council.Proposer(c, round)
	if e != api.OK {
		t.Fatalf("P5.5: Proposer(%v, %d): error %d", c, round, e)
	}
	return a
}

func wantCouncil(t *testing.T, what string, got api.Council, want []api.Member) {
	t.Helper()
	if !slices.Equal(got.Members, want) {
		t.Errorf("%s: %v, want %v", what, got.Members, want)
	}
}

// wantNothing: what stands beside an error.
func wantNothing(t *testing.T, what string, got api.Council, e, want api.Errno) {
	t.Helper()
	wantErr(t, what, e, want)
	if got.Members != nil {
		t.Errorf("%s: beside the error %d stands %v", what, e, got)
	}
}
