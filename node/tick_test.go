package node_test

import (
	"math"
	"reflect"
	"slices"
	"testing"

	"assent/api"
)

// TestClock: P15.9: it never goes back, and a Tick sets it on.
func TestClock(t *testing.T) {
	w := begin(t, 4, 2)
	for _, c := range []struct{ now, want uint64 }{{0, 100}, {100, 100}, {99, 100}, {101, 101}, {5, 101}, {140, 140}, {139, 140}, {api.MaxTime - 1, api.MaxTime - 1}, {api.MaxTime, api.MaxTime}, {7, api.MaxTime}} {
		w.tick("N6", c.now, api.OK)
		if got := w.n.Clock(); got != c.want {
			t.Errorf("P15.9: Tick(%d): the clock is %d, want %d", c.now, got, c.want)
		}
	}
	w = begin(t, 4, 2)
	was := w.told()
	for _, now := range []uint64{api.MaxTime + 1, math.MaxUint64} {
		w.tick("N6", now, api.ErrArg)
		w.unchanged("N6", was)
	}
	w.arm(1, api.TrFault, false)
	w.tick("N1", 150, api.ErrFault)
	if w.n.Clock() != 150 {
		t.Errorf("N6: the clock is %d", w.n.Clock())
	}
	w.tick("N6: dead, ahead of the number", math.MaxUint64, api.ErrDead)
	w.tick("N6: dead", 160, api.ErrDead)
	if w.n.Clock() != 150 {
		t.Errorf("P15.8: the clock is %d", w.n.Clock())
	}
}

// TestClockBehind: a Tick with a time that is over does what is due at the clock.
func TestClockBehind(t *testing.T) {
	g := genesis(4)
	g.Params.Pause = 0
	w := newWorld(t, g, 2)
	w.open(100)
	w.tick("N6", 3, api.OK)
	w.wrote("N6: begun at once", 0, api.Input{Kind: api.InStart, Now: 100})
}

// TestBegins: the height begins when the start has come, once.
func TestBegins(t *testing.T) {
	w := begin(t, 4, 2)
	w.tick("N6", 101, api.OK)
	w.wrote("N6: the start is 102", 0)
	w.tick("N6", 103, api.OK)
	w.wrote("N6", 0, api.Input{Kind: api.InStart, Now: 103})
	w.tick("N6", 104, api.OK)
	w.wrote("N6: it has begun", 1)
}

// TestWaitsInOrder: waits that are over are handed in by their times, with the clock as their Now.
func TestWaitsInOrder(t *testing.T) {
	w := started(t, 4, 2) // StepPropose of round 0: 107
	w.tick("N6", 104, api.OK)
	for _, a := range []api.Addr{1, 3, 4} {
		w.deliver("N5", voted(w.precommit(0, none, 0, a)), api.OK) // StepPrecommit: 104 + 6
	}
	w.n.Out()
	w.tick("N6", 106, api.OK)
	w.wrote("N6: nothing is over", 4)
	w.tick("N6", 120, api.OK)
	b := w.block(2) // in round 1 it is own's turn
	w.wrote("N6", 4, api.Input{Kind: api.InTimeout, Now: 120, Step: api.StepPropose}, api.Input{Kind: api.InTimeout, Now: 120, Step: api.StepPrecommit}, api.Input{Kind: api.InBuilt, Now: 120, Round: 1, Block: b})
	all := w.sent("N6", api.MsgVote, api.MsgProposal, api.MsgVote)
	if all[0].Votes[0] != w.prevote(0, none, 2) || all[1].Proposal.Round != 1 || all[2].Votes[0] != w.prevote(1, idOf(b), 2) {
		t.Errorf("N6: %+v", all)
	}
	w.tick("N6", 129, api.OK)
	w.wrote("N6: each once", 7)
	w.tick("N6", 130, api.OK) // that of round 1 is twice as long; it is over though own is further
	w.wrote("N6", 7, api.Input{Kind: api.InTimeout, Now: 130, Step: api.StepPropose, Round: 1})
	w.tick("N6", 500, api.OK)
	w.wrote("N6: no wait is left", 8)
}

// TestWaitsAlike: of waits with one time the one that was set first comes first.
func TestWaitsAlike(t *testing.T) {
	step := func(round, step int) api.Input { return api.Input{Kind: api.InTimeout, Step: step, Round: round} }
	for what, c := range map[string]struct {
		propose, votes uint64
		want           []api.Input
	}{
		"the proposal's first":   {6, 3, []api.Input{step(0, api.StepPropose), step(0, api.StepPrecommit)}}, // both 108
		"the precommits' sooner": {7, 3, []api.Input{step(0, api.StepPrecommit), step(0, api.StepPropose)}},
		"the proposal's sooner":  {6, 4, []api.Input{step(0, api.StepPropose), step(0, api.StepPrecommit)}},
	} {
		g := genesis(4)
		g.Params.Propose, g.Params.Votes = c.propose, c.votes
		w := newWorld(t, g, 4)
		w.open(100)
		for _, a := range []api.Addr{1, 2, 3} {
			w.deliver("N5", voted(w.precommit(0, none, 0, a)), api.OK)
		}
		w.tick("N6", 102, api.OK)
		w.tick("N6", 110, api.OK)
		for k := range c.want {
			c.want[k].Now = 110
		}
		w.wrote("N6: "+what, 4, c.want...)
	}
	// Set in another order: that of round 0's precommits, then that of round 1's proposal.
	g := genesis(4)
	g.Params.Votes = 10
	w := newWorld(t, g, 4)
	w.open(100)
	w.tick("N6", 102, api.OK)
	w.tick("N6", 103, api.OK)
	for _, a := range []api.Addr{1, 2, 3} {
		w.deliver("N5", voted(w.precommit(0, none, 0, a)), api.OK) // 103 + 20
	}
	w.tick("N6", 113, api.OK)
	for _, a := range []api.Addr{1, 2} {
		w.deliver("N5", voted(w.prevote(1, none, a)), api.OK) // round 1: 113 + 10
	}
	n := len(w.records(1))
	w.tick("N6", 122, api.OK)
	w.wrote("N6", n)
	w.tick("N6", 123, api.OK)
	want := []api.Input{step(0, api.StepPrecommit), step(1, api.StepPropose)}
	want[0].Now, want[1].Now = 123, 123
	w.wrote("N6", n, want...)
}

// TestWaitsOfAHeight: what waited at a height that is decided waits no more, in the same Tick neither.
func TestWaitsOfAHeight(t *testing.T) {
	g := genesis(4)
	g.Accounts[1].Bond = 50 // own and one more are a quorum, and the others are no third
	g.Params.Propose = 100
	w := newWorld(t, g, 2)
	w.open(100)
	w.tick("N6", 102, api.OK) // own proposes; StepPropose: 202
	w.deliver("N5", voted(w.prevote(0, none, 1)), api.OK)
	w.tick("N6", 105, api.OK)
	w.view("N6", 0, api.StepPrecommit, -1, -1)
	w.deliver("N5", voted(w.precommit(0, none, 0, 1)), api.OK) // StepPrecommit: 111
	y := w.block(1)
	w.deliver("N5", w.proposal(1, -1, y), api.OK)
	w.deliver("N5", voted(w.prevote(1, idOf(y), 1)), api.OK)
	w.deliver("N5", voted(w.precommit(1, idOf(y), 150, 1)), api.OK)
	n := len(w.records(1))
	w.tick("N6", 300, api.OK)
	w.at("N6", 1, false)
	if got := w.records(1); len(got) != n+1 || !likeInput(got[n], api.Input{Kind: api.InTimeout, Now: 300, Step: api.StepPrecommit}) {
		t.Errorf("N6: %s", inputs(got[n:]))
	}
	if got := w.records(2); len(got) != 0 {
		t.Errorf("N6: handed in at the next height: %s", inputs(got))
	}
	w.tick("N6", 301, api.OK)
	w.wrote("N3: the start is 302", 0)
	w.n.Out()
	w.tick("N6", 302, api.OK)
	if got := w.records(2); len(got) == 0 || !likeInput(got[0], api.Input{Kind: api.InStart, Now: 302}) || got[len(got)-1].Kind == api.InTimeout {
		t.Errorf("N3: %s", inputs(got))
	}
}

// TestLastTime: at MaxTime everything is due with the next Tick, and not in the one in which it is set.
func TestLastTime(t *testing.T) {
	w := newWorld(t, genesis(4), 2)
	w.open(api.MaxTime - 1)
	w.tick("N6", api.MaxTime-1, api.OK)
	w.view("N4: the start is MaxTime", 0, api.StepNew, -1, -1)
	w.tick("N6", api.MaxTime, api.OK)
	w.wrote("N6: the wait is set in this Tick", 0, api.Input{Kind: api.InStart, Now: api.MaxTime})
	w.sent("N6", api.MsgStatus)
	w.tick("N6", 0, api.OK)
	w.wrote("N6: and over in the next", 1, api.Input{Kind: api.InTimeout, Now: api.MaxTime, Step: api.StepPropose})
	if all := w.sent("N6: it is sent with every Tick", api.MsgVote, api.MsgStatus, api.MsgVote); all[0].Votes[0] != all[2].Votes[0] {
		t.Errorf("N6: %+v", all)
	}
	w.tick("N6", api.MaxTime, api.OK)
	w.sent("N6: it is sent with every Tick", api.MsgStatus, api.MsgVote)
}

// TestChainEnds: when no block's time can be later than the one ahead no block is made, and the rounds go by.
func TestChainEnds(t *testing.T) {
	w := newWorld(t, genesis(1), 1)
	w.open(api.MaxTime)
	w.tick("N6", api.MaxTime, api.OK)
	w.at("N6", 1, false)
	w.tick("N6", api.MaxTime, api.OK)
	w.at("N6", 2, false)
	if got := w.n.State().Time; got != api.MaxTime {
		t.Errorf("the time of the last block is %d", got)
	}
	w.n.Out()
	w.tick("N6", api.MaxTime, api.OK)
	w.wrote("N2: no block can be made", 0, api.Input{Kind: api.InStart, Now: api.MaxTime})
	w.view("N2: no block can be made", 0, api.StepPropose, -1, -1)
	for round := range 4 {
		w.tick("N6", api.MaxTime, api.OK)
		w.view("N6: votes for none", round, api.StepPrecommit, -1, -1)
		w.tick("N6", api.MaxTime, api.OK)
		w.view("N6: the next round", round+1, api.StepPropose, -1, -1)
	}
	w.at("N6", 2, false)
}

// TestResend: every Resend ticks the node tells where it stands, and sends all that it holds.
func TestResend(t *testing.T) {
	w := begin(t, 4, 1)
	w.tick("N6", 149, api.OK) // it begins, and it is own's turn
	first := w.sent("N6: not yet", api.MsgProposal, api.MsgVote)
	w.tick("N6", 150, api.OK)
	again := w.sent("N6", api.MsgStatus, api.MsgProposal, api.MsgVote)
	if again[0].Height != 1 || again[0].Round != 0 || !reflect.DeepEqual(again[1:], first) {
		t.Errorf("N6: %+v, want %+v", again, first)
	}
	w.tick("N6", 199, api.OK)
	if _, all := w.out(); slices.ContainsFunc(all, func(m api.Msg) bool { return m.Kind == api.MsgStatus }) {
		t.Errorf("N6: the next sending is 200")
	}
	b := first[0].Block
	votes := []api.Vote{first[1].Votes[0], w.prevote(0, idOf(b), 3), w.prevote(0, idOf(b), 4)}
	for _, v := range votes[1:] {
		w.deliver("N5", voted(v), api.OK)
	}
	w.n.Out()
	signed := w.r.Count()
	w.tick("N6", 260, api.OK)
	own := w.precommit(0, idOf(b), 199, 1)
	want := []api.Msg{{Kind: api.MsgStatus, Height: 1}, first[0], {Kind: api.MsgPolka, Block: b, Votes: votes}, voted(votes[0]), voted(votes[1]), voted(votes[2]), voted(own)}
	if _, all := w.out(); !reflect.DeepEqual(all, want) {
		t.Errorf("N6: %+v, want %+v", all, want)
	}
	if w.r.Count() != signed {
		t.Errorf("N6: something else is signed")
	}
	w.tick("N6", 309, api.OK)
	w.sent("N6: the next sending is 310")
	w.tick("N6", 310, api.OK)
	w.sent("N6", api.MsgStatus, api.MsgProposal, api.MsgPolka, api.MsgVote, api.MsgVote, api.MsgVote, api.MsgVote)
}

// TestResendBehind: what is sent again is what is held behind all that the same Tick has brought: at another round, at another height.
func TestResendBehind(t *testing.T) {
	w := begin(t, 1, 1)
	w.tick("N6", 150, api.OK)
	all := w.sent("N6", api.MsgProposal, api.MsgVote, api.MsgVote, api.MsgStatus)
	if all[3].Height != 2 {
		t.Errorf("N6: %+v", all[3])
	}
	w = begin(t, 4, 4)
	w.tick("N6", 102, api.OK)
	for _, a := range []api.Addr{1, 2, 3} {
		w.deliver("N5", voted(w.precommit(0, none, 0, a)), api.OK)
	}
	w.tick("N6", 150, api.OK)
	all = w.sent("N6", api.MsgVote, api.MsgStatus, api.MsgVote, api.MsgVote, api.MsgVote, api.MsgVote)
	if all[1].Height != 1 || all[1].Round != 1 || all[2].Votes[0] != all[0].Votes[0] {
		t.Errorf("N6: %+v", all)
	}
	w = begin(t, 4, 4)
	w.tick("N6", 149, api.OK)
	w.deliver("N5", voted(w.prevote(0, none, 1)), api.OK)
	w.grow(1)
	w.n.Out()
	w.tick("N6: in StepNew it holds nothing", 150, api.OK)
	if m := w.sent("N6", api.MsgStatus); m[0].Height != 2 || m[0].Round != 0 {
		t.Errorf("N6: %+v", m)
	}
}

// TestLooksOn: a node without a signer, or with that of no member, comes to everything and signs nothing.
func TestLooksOn(t *testing.T) {
	for _, own := range []api.Addr{0, 9} {
		w := started(t, 4, own)
		w.tick("N6", 107, api.OK)
		b := w.block(1)
		w.deliver("N5", w.proposal(0, -1, b), api.OK)
		for _, a := range []api.Addr{1, 2, 4} {
			w.deliver("N5", voted(w.prevote(0, idOf(b), a)), api.OK)
		}
		for _, a := range []api.Addr{1, 2, 4} {
			w.deliver("N5", voted(w.precommit(0, idOf(b), 107, a)), api.OK)
		}
		w.at("N3", 1, false)
		w.sent("N2: nothing is asked of one who looks on")
		if got := w.r.Signed(9); len(got) != 0 {
			t.Errorf("N2: %d messages are signed", len(got))
		}
		w.open(107)
		w.at("N4", 1, false)
		w.isPlayed("P15.2")
	}
}
