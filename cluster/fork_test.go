package cluster_test

import (
	"math/rand"
	"slices"
	"strconv"
	"testing"

	"assent/api"
	"assent/blame"
	"assent/chain"
	"assent/council"
	"assent/wire"
)

// newFork is a play in which the liars have a third of the power or more, but less than two thirds.
func newFork(t *testing.T, seed int64) *play {
	t.Helper()
	r := rand.New(rand.NewSource(seed))
	honest, liars := 2+r.Intn(3), 1+r.Intn(3)
	var bonds []uint64
	power := uint64(0)
	for range honest {
		bonds = append(bonds, uint64(8+r.Intn(5)))
		power += bonds[len(bonds)-1]
	}
	most := 2*power - 1 - uint64(r.Intn(int(power))) // of all liars together: below two thirds
	for range liars {
		bonds = append(bonds, most/uint64(liars))
	}
	g := genesis(append(bonds, 0, 0)...)
	for k := range g.Accounts {
		g.Accounts[k].Balance = 300
	}
	q := &g.Params
	q.Propose, q.Votes, q.Pause, q.Resend = uint64(1+r.Intn(6)), uint64(1+r.Intn(4)), uint64(r.Intn(4)), uint64(1+r.Intn(8))
	x := &play{r: r, told: map[teller]api.Hash{}}
	x.pair = newPair(t, g, upTo(honest+liars), liars)
	return x
}

// prevoted is what an honest node has prevoted last at a height, and in which round.
func (w *world) prevoted(node int, height uint64) (last api.Vote, found bool) {
	for _, msg := range w.c.Signed(w.addrs[node]) {
		if _, v, e := wire.ReadVoteBytes(msg); e == api.OK && v.Kind == api.Prevote && v.Height == height {
			last, found = v, true
		}
	}
	return last, found
}

// assist has the liars serve a node: they propose to it alone, and vote for what it has prevoted.
func (x *play) assist(k int) {
	x.t.Helper()
	view, st, was := x.view(k), x.state(k), x.c.Pending()
	if view.Step == api.StepPropose {
		who, _ := council.Proposer(st.Council, view.Round)
		liar := slices.Index(x.addrs, who)
		_, last, _ := x.c.Block(k, st.Height)
		if b, e := chain.Make(st, x.c.Registry(), nil, nil, last, who); e == api.OK && liar >= x.honest() {
			x.lie(liar, k, api.Msg{Kind: api.MsgProposal, Proposal: api.Proposal{Height: view.Height, Round: view.Round, ValidRound: -1, Id: idOf(b), From: who}, Block: b})
		}
	}
	v, ok := x.prevoted(k, view.Height)
	for liar := x.honest(); ok && liar < len(x.addrs); liar++ {
		v.From = x.addrs[liar]
		x.lie(liar, k, voted(v))
		if x.r.Intn(3) > 0 {
			w := v
			w.Kind = api.Precommit
			if w.Id != none {
				w.Time = max(st.Time+1, x.clock(k)) + uint64(x.r.Intn(5))
			}
			x.lie(liar, k, voted(w))
		}
	}
	for n := x.c.Pending() - was; n > 0; n-- {
		x.deliver(was, false)
	}
}

// cut loses most of what is under way between the honest nodes.
func (x *play) cut() {
	x.t.Helper()
	for at := x.c.Pending() - 1; at >= 0; at-- {
		if from, _, _, _ := x.c.Peek(at); from < x.honest() && x.r.Intn(8) > 0 {
			x.drop(at)
		}
	}
}

// split has something come to pass where liars keep the honest apart.
func (x *play) split(troubles bool) {
	x.t.Helper()
	k := x.r.Intn(x.honest())
	switch n := x.r.Intn(20); {
	case n < 8:
		x.tick(k, uint64(x.r.Intn(3)))
	case n < 13:
		x.assist(k)
	case n < 15:
		x.cut()
	case n < 17:
		x.stir(troubles)
	case x.c.Pending() > 0:
		x.deliver(x.r.Intn(x.c.Pending()), false)
	}
}

// wantBlame is W6, where all honest nodes are alive: nobody honest is named, and, if less than two thirds of the height's council are liars, more than a third is. It tells whether two nodes differ.
func (x *play) wantBlame() (forked bool) {
	x.t.Helper()
	guilts, e := x.c.Blame()
	if e == api.ErrNone {
		return false
	}
	x.is("C11", e, api.OK)
	for _, g := range guilts {
		if slices.Contains(x.addrs[:x.honest()], g.Addr) {
			x.t.Fatalf("W6: the honest %d is named: %+v", g.Addr, g)
		}
	}
	teller, height := x.fork()
	l, e := x.c.Light(teller, height)
	x.is("C9", e, api.OK)
	liars := uint64(0)
	for _, m := range l.Council.Members {
		if !slices.Contains(x.addrs[:x.honest()], m.Addr) {
			liars += m.Power
		}
	}
	if total := council.Total(l.Council); 3*liars < 2*total && 3*blame.Power(l.Council, guilts) <= total {
		x.t.Fatalf("W6: %d of %d are named, %d lie: %+v", blame.Power(l.Council, guilts), total, liars, guilts)
	}
	return true
}

// fork is the least height at which two nodes tell unlike blocks, and one of these nodes.
func (x *play) fork() (teller int, least uint64) {
	x.t.Helper()
	ids := map[uint64]api.Hash{}
	least = api.MaxHeight
	for k := range x.honest() {
		for h := uint64(1); h <= x.state(k).Height; h++ {
			b, _ := x.block(k, h)
			if was, there := ids[h]; there && was != idOf(b) && h < least {
				teller, least = k, h
			}
			ids[h] = idOf(b)
		}
	}
	return teller, least
}

// TestForks: clusters in which more than a third lies, and makes the honest nodes decide unlike blocks, are held against models; nobody honest is ever named, and enough of the others.
func TestForks(t *testing.T) {
	const plays = 32
	forked := make([]bool, plays)
	t.Run("seeds", func(t *testing.T) {
		for seed := range forked {
			t.Run(strconv.Itoa(seed), func(t *testing.T) {
				t.Parallel()
				x := newFork(t, int64(seed))
				for range 6 {
					for range 200 {
						x.split(seed%3 > 0)
					}
					x.lookAll(x.r)
					x.revive()
					forked[seed] = x.wantBlame() || forked[seed]
				}
				for k := range x.honest() {
					wantHonest(t, x.c.Signed(x.addrs[k]))
				}
			})
		}
	})
	many := 0
	for _, yes := range forked {
		if yes {
			many++
		}
	}
	if many < plays/2 {
		t.Errorf("the nodes differ in %d plays", many)
	}
}
