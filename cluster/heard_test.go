package cluster_test

import (
	"math"
	"slices"
	"testing"

	"assent/api"
	"assent/chain"
	"assent/council"
	"assent/wire"
)

func TestHeardRefuses(t *testing.T) {
	w := begin(t, four(), 1)
	w.rounds(20)
	for _, height := range []uint64{0, api.MaxHeight + 1, math.MaxUint64} {
		votes, e := w.c.Heard(0, height)
		if w.is("C10", e, api.ErrArg); votes != nil {
			t.Errorf("G2: votes beside an error")
		}
		_, e = w.c.Heard(3, height)
		w.is("C10: the node comes first", e, api.ErrNode)
	}
	for _, height := range []uint64{api.MaxHeight, 1000} {
		if votes := w.heard(0, height); len(votes) != 0 {
			t.Errorf("C10: %d votes of %d", len(votes), height)
		}
	}
}

// TestHeard: the votes of the log's records in their order, and behind them the node's own, each once.
func TestHeard(t *testing.T) {
	w := begin(t, four(), 1)
	w.tick(0, 2) // it proposes and prevotes
	id := w.way()[0].m.Proposal.Id
	w.clear()
	vote := func(round int, id api.Hash) api.Vote {
		return sealed(api.Vote{Kind: api.Prevote, Height: 1, Round: round, Id: id, From: 4})
	}
	own := sealed(api.Vote{Kind: api.Prevote, Height: 1, Id: id, From: 1})
	give := func(m api.Msg) {
		w.is("C7", w.c.Lie(3, 0, m), api.OK)
		w.is("C3", w.c.Deliver(w.c.Pending()-1, false), api.OK)
	}
	want := func(votes ...api.Vote) {
		t.Helper()
		if got := w.heard(0, 1); !slices.Equal(got, votes) {
			t.Fatalf("C10: %v, want %v", got, votes)
		}
	}
	want(own) // it stands in no record, but in the book
	give(voted(api.Vote{Kind: api.Prevote, Height: 1, Round: 1, From: 4}))
	want(vote(1, none), own)
	give(voted(api.Vote{Kind: api.Prevote, Height: 1, Id: id, From: 4}))
	give(voted(api.Vote{Kind: api.Prevote, Height: 1, Id: id, From: 4})) // has come already
	give(voted(api.Vote{Kind: api.Prevote, Height: 2, Id: id, From: 4})) // of another height: not taken
	give(voted(api.Vote{Kind: api.Prevote, Height: 1, Id: id, From: 3})) // without a seal
	want(vote(1, none), vote(0, id), own)
	w.is("C6", w.c.Submit(0, pays(1, 0)), api.OK) // signed by the node's signer too, and no vote
	want(vote(1, none), vote(0, id), own)
	if got := w.heard(1, 1); len(got) != 0 {
		t.Errorf("C10: node 1 has heard %v", got)
	}
	// A polka of which some are known: node 2 prevotes, and its vote comes with the others, by rising member.
	w.tick(1, 2)
	w.clear()
	w.is("C5", w.c.Restart(0, nil, 0), api.OK)
	w.is("C3", w.c.Deliver(0, false), api.OK) // the proposal, to node 1
	b := w.way()[0].m.Block
	two := sealed(api.Vote{Kind: api.Prevote, Height: 1, Id: id, From: 2})
	give(api.Msg{Kind: api.MsgPolka, Block: b, Votes: []api.Vote{own, two, {Kind: api.Prevote, Height: 1, Id: id, From: 4}}})
	v := w.view(0)
	if v.Step != api.StepPrecommit {
		t.Fatalf("node 0: %+v", v)
	}
	cast := sealed(api.Vote{Kind: api.Precommit, Height: 1, Id: id, Time: 9, From: 1})
	want(vote(1, none), vote(0, id), own, two, cast)
	for _, v := range w.heard(0, 1) {
		msg, _ := wire.VoteBytes(name, v)
		if !w.c.Registry().Check(v.From, msg, v.Seal) {
			t.Errorf("C10: %+v is not sealed", v)
		}
	}
}

// TestHeardProposal: the votes that a proposal brings stand in its record.
func TestHeardProposal(t *testing.T) {
	w := begin(t, genesis(10, 10, 50), 1) // the liar is a quorum by itself
	st := w.state(0)
	b, _ := chain.Make(st, w.c.Registry(), nil, nil, api.Cert{}, 3)
	round := 1
	for who, _ := council.Proposer(st.Council, round); who != 3; who, _ = council.Proposer(st.Council, round) {
		round++
	}
	votes := []api.Vote{{Kind: api.Prevote, Height: 1, Id: idOf(b), From: 3}}
	m := api.Msg{Kind: api.MsgProposal, Proposal: api.Proposal{Height: 1, Round: round, Id: idOf(b), From: 3}, Block: b, Votes: votes}
	w.is("C7", w.c.Lie(2, 0, m), api.OK)
	w.is("C3", w.c.Deliver(0, false), api.OK)
	if got := w.heard(0, 1); !slices.Equal(got, []api.Vote{sealed(votes[0])}) {
		t.Errorf("C10: %v", got)
	}
}

// TestHeardHeights: each height has its own log; what was heard long ago is told as ever, behind crashes too.
func TestHeardHeights(t *testing.T) {
	p := newPair(t, four(), upTo(4), 1)
	p.rounds(150)
	top := p.state(0).Height
	if top < 17 {
		t.Fatalf("they are at %d", top)
	}
	var was [][]api.Vote
	for h := uint64(1); h <= top; h++ {
		votes := p.heard(0, h)
		for _, v := range votes {
			if v.Height != h {
				t.Errorf("C10: %+v among those of %d", v, h)
			}
		}
		if len(votes) < 6 {
			t.Errorf("C10: %d votes of %d", len(votes), h)
		}
		p.lookAt(0, p.m.nodes[0], h)
		was = append(was, votes)
	}
	p.restart(0, nil, 0)
	p.rounds(3)
	for h := uint64(1); h <= top; h++ {
		if !slices.Equal(p.heard(0, h), was[h-1]) {
			t.Errorf("C10: other votes of %d behind a crash", h)
		}
	}
}

// TestHeardDead: of a dead node is told what its disk still shows: a record that was written though not synced; of a disk without power nothing. What it has signed the book tells.
func TestHeardDead(t *testing.T) {
	for _, kind := range []int{api.TrFault, api.TrPower} {
		w := begin(t, four(), 1)
		w.tick(0, 2)
		own := w.heard(0, 1)
		v := api.Vote{Kind: api.Prevote, Height: 1, From: 4}
		w.is("C5", w.c.Arm(0, api.Trouble{At: 2, Kind: kind, Done: kind == api.TrPower}), api.OK) // a Sync
		w.lie(3, 0, v)
		w.is("C3", w.c.Deliver(w.c.Pending()-1, false), api.OK)
		if !w.c.Dead(0) || len(own) != 1 {
			t.Fatalf("C5: it is alive, and has heard %d", len(own))
		}
		want := append([]api.Vote{sealed(v)}, own...)
		if kind == api.TrPower {
			want = own
		}
		for range 2 { // asking changes nothing
			if got := w.heard(0, 1); !slices.Equal(got, want) {
				t.Errorf("C10: %v, want %v", got, want)
			}
		}
		w.is("C5", w.c.Restart(0, nil, 0), api.OK)
		if got := w.heard(0, 1); kind == api.TrPower && !slices.Equal(got, append([]api.Vote{sealed(v)}, own...)) {
			t.Errorf("C10: behind a Restart %v", got)
		}
	}
}

// dictator is a cluster of four honest nodes of little power, and a liar who is a quorum by itself.
type dictator struct {
	*world
	last map[api.Hash]api.Cert // by which a block is decided in the next one
}

func newDictator(t *testing.T) dictator {
	t.Helper()
	return dictator{beginWith(t, genesis(10, 10, 10, 10, 100, 0), upTo(5), 1), map[api.Hash]api.Cert{}}
}

// decide has a node hear of a block behind its state with a certificate that the liar alone has signed, at a time; the proposer makes the block another one.
func (d dictator) decide(node int, proposer api.Addr, time uint64) {
	d.t.Helper()
	st := d.state(node)
	txs, _ := d.c.Pool(node)
	b, e := chain.Make(st, d.c.Registry(), txs, nil, d.last[st.Last], proposer)
	d.is("Make", e, api.OK)
	v := api.Vote{Kind: api.Precommit, Height: st.Height + 1, Id: idOf(b), Time: time, From: 5}
	d.is("C7", d.c.Lie(4, 0, voted(v)), api.OK) // that it is signed
	d.is("C3", d.c.Drop(d.c.Pending()-1), api.OK)
	x := api.Cert{Height: v.Height, Id: v.Id, Marks: []api.Mark{{Index: council.Index(st.Council, 5), Time: time, Seal: sealed(v).Seal}}}
	if _, there := d.last[x.Id]; !there {
		d.last[x.Id] = x
	}
	d.is("C7", d.c.Lie(4, node, api.Msg{Kind: api.MsgDecision, Block: b, Cert: x}), api.OK)
	d.is("C3", d.c.Deliver(d.c.Pending()-1, false), api.OK)
	if got := d.state(node).Height; got != st.Height+1 {
		d.t.Fatalf("node %d is at %d", node, got)
	}
}

// TestBlameFirst: blamed is the least height at which two differ, by the first two that do, and by the council of that height.
func TestBlameFirst(t *testing.T) {
	d := newDictator(t)
	wantNone := func() {
		t.Helper()
		if l, e := d.c.Blame(); e != api.ErrNone || l != nil {
			t.Fatalf("C11: %v, error %d", l, e)
		}
	}
	wantNone()
	// In block 1 the account 6 bonds, and sits from height 3 on.
	for k := range 4 {
		d.is("C6", d.c.Submit(k, api.Tx{Kind: api.TxBond, From: 6, Amount: 5}), api.OK)
		d.decide(k, 1, 30+uint64(k)) // other certificates, one block
		wantNone()
		d.decide(k, 1, 40)
		wantNone()
	}
	d.decide(2, 3, 51) // node 2 is alone at height 3
	wantNone()
	d.decide(0, 1, 57)
	// Nodes 0 and 2 differ; nobody has heard of a vote.
	want := func(who ...int) {
		t.Helper()
		var votes []api.Vote
		for _, k := range who {
			_, x := d.block(k, 3)
			votes = append(votes, sealed(api.Vote{Kind: api.Precommit, Height: 3, Id: x.Id, Time: x.Marks[0].Time, From: 5}))
		}
		slices.SortFunc(votes, func(v, w api.Vote) int { return slices.Compare(v.Id[:], w.Id[:]) })
		l, e := d.c.Blame()
		d.is("C11", e, api.OK)
		if !slices.Equal(l, []api.Guilt{{Addr: 5, Kind: api.GuiltTwice, A: votes[0], B: votes[1]}}) {
			t.Errorf("C11: %v, want those of %v", l, who)
		}
	}
	want(0, 2)
	d.decide(1, 1, 52) // as node 0, with an earlier mark
	want(0, 2)
	d.decide(3, 4, 53) // another one
	want(0, 2)
	for k, by := range []api.Addr{1, 2, 3, 4} { // above it they differ too
		d.decide(k, by, 60)
	}
	want(0, 2)
	if l, _ := d.c.Light(0, 3); len(l.Council.Members) != 6 {
		t.Errorf("the council of 3 has %d members", len(l.Council.Members))
	}
	// A node whose disk has no power tells no block.
	d.is("C5", d.c.Arm(0, api.Trouble{At: 1, Kind: api.TrPower}), api.OK)
	d.tick(0, 1000)
	if !d.c.Dead(0) {
		t.Fatalf("C5: no trouble befalls it")
	}
	want(1, 2)
	// One that is dead, but has power, tells them.
	d.is("C5", d.c.Arm(1, api.Trouble{At: 1, Kind: api.TrFault}), api.OK)
	d.tick(1, 1000)
	if !d.c.Dead(1) {
		t.Fatalf("C5: no trouble befalls it")
	}
	want(1, 2)
	d.is("C5", d.c.Restart(0, nil, 0), api.OK)
	want(0, 2)
}

// TestBlameLaterPlace: of three that tell two blocks, the one that differs and the least that it differs from.
func TestBlameLaterPlace(t *testing.T) {
	d := newDictator(t)
	d.decide(1, 1, 30)
	d.decide(2, 1, 31)
	d.decide(3, 2, 32)
	d.decide(0, 2, 33)
	// 0: y at 33; 1: x at 30; 2: x at 31; 3: y at 32. The least place that differs from an earlier one is 1, from 0.
	l, e := d.c.Blame()
	d.is("C11", e, api.OK)
	if len(l) != 1 || min(l[0].A.Time, l[0].B.Time) != 30 || max(l[0].A.Time, l[0].B.Time) != 33 {
		t.Errorf("C11: %v", l)
	}
}

// parted is a cluster of the members 1 to 4, of which 1 and 2 are honest nodes between which nothing is delivered, and 3 and 4 lie.
func parted(t *testing.T) *world {
	t.Helper()
	return begin(t, four(), 2)
}

// tickTill lets the clock of a node go on till it has come so far.
func (w *world) tickTill(node int, far func(v api.View) bool) {
	w.t.Helper()
	for range 200 {
		if far(w.view(node)) {
			return
		}
		w.tick(node, 1)
		w.clear()
	}
	w.t.Fatalf("node %d stands still at %+v", node, w.view(node))
}

// back has both liars vote, to a node alone, for what stands in a vote; what it sends is lost.
func (w *world) back(node int, v api.Vote) {
	w.t.Helper()
	for liar := 2; liar < 4; liar++ {
		w.clear()
		w.lie(liar, node, v)
		w.is("C3", w.c.Deliver(0, false), api.OK)
	}
	w.clear()
}

// TestBlame is W6: the liars have one block decided in round 0 and another in round 1; each is named, by what both logs show, and nobody honest, whether a node crashes meanwhile or not.
func TestBlame(t *testing.T) {
	for _, crash := range []bool{false, true} {
		w := parted(t)
		crashes := func() {
			if crash {
				w.is("C5", w.c.Restart(1, nil, 0), api.OK)
				w.clear()
			}
		}
		w.tickTill(0, func(v api.View) bool { return v.Step == api.StepPrevote })
		x, _ := w.prevoted(0, 1)
		w.back(0, api.Vote{Kind: api.Prevote, Height: 1, Id: x.Id})
		w.back(0, api.Vote{Kind: api.Precommit, Height: 1, Id: x.Id, Time: 10})
		if w.state(0).Height != 1 {
			t.Fatalf("node 0 has not decided")
		}
		_, e := w.c.Blame()
		w.is("C11", e, api.ErrNone)

		w.tickTill(1, func(v api.View) bool { return v.Step == api.StepPrevote })
		w.back(1, api.Vote{Kind: api.Prevote, Height: 1, Id: x.Id})
		crashes()
		w.tickTill(1, func(v api.View) bool { return v.Step == api.StepPrecommit })
		w.back(1, api.Vote{Kind: api.Precommit, Height: 1, Id: x.Id, Time: 10})
		w.tickTill(1, func(v api.View) bool { return v.Round == 1 })
		crashes()
		w.tickTill(1, func(v api.View) bool { return v.Step == api.StepPrevote })
		y, _ := w.prevoted(1, 1)
		w.back(1, api.Vote{Kind: api.Prevote, Height: 1, Round: 1, Id: y.Id})
		w.back(1, api.Vote{Kind: api.Precommit, Height: 1, Round: 1, Id: y.Id, Time: 30})
		if w.state(1).Height != 1 || x.Id == y.Id {
			t.Fatalf("node 1 has not decided another block")
		}
		var want []api.Guilt
		for _, a := range []api.Addr{3, 4} {
			want = append(want, api.Guilt{Addr: a, Kind: api.GuiltForget, A: sealed(api.Vote{Kind: api.Precommit, Height: 1, Id: x.Id, Time: 10, From: a}), B: sealed(api.Vote{Kind: api.Prevote, Height: 1, Round: 1, Id: y.Id, From: a})})
		}
		for range 2 { // it is not changed by asking
			got, e := w.c.Blame()
			if w.is("C11", e, api.OK); !slices.Equal(got, want) {
				t.Errorf("W6: %+v, want %+v", got, want)
			}
		}
		// It stays so when the nodes go on, each for itself.
		w.rounds(30)
		if got, e := w.c.Blame(); e != api.OK || !slices.Equal(got, want) {
			t.Errorf("W6: %+v, error %d", got, e)
		}
	}
}

// TestBlameReason: a node that has locked a block and later votes for another has its reason in its log, which Blame looks at.
func TestBlameReason(t *testing.T) {
	w := parted(t)
	w.tickTill(0, func(v api.View) bool { return v.Step == api.StepPrevote })
	x, _ := w.prevoted(0, 1)
	w.back(0, api.Vote{Kind: api.Prevote, Height: 1, Id: x.Id}) // node 0 locks its block
	if w.view(0).Locked != 0 {
		t.Fatalf("node 0: %+v", w.view(0))
	}
	w.tickTill(1, func(v api.View) bool { return v.Step == api.StepPrevote })
	w.back(1, api.Vote{Kind: api.Prevote, Height: 1})
	w.back(1, api.Vote{Kind: api.Precommit, Height: 1})
	w.tickTill(1, func(v api.View) bool { return v.Round == 1 && v.Step >= api.StepPrevote })
	y, _ := w.prevoted(1, 1)
	w.is("C5", w.c.Restart(1, nil, 0), api.OK)
	var block api.Block
	for _, z := range w.way() {
		if z.m.Kind == api.MsgProposal {
			block = z.m.Block
		}
	}
	w.back(1, api.Vote{Kind: api.Prevote, Height: 1, Round: 1, Id: y.Id})
	w.back(1, api.Vote{Kind: api.Precommit, Height: 1, Round: 1, Id: y.Id, Time: 30})
	// In round 2 the liar 3 proposes y to node 0, with its polka: node 0 goes over to it.
	w.back(0, api.Vote{Kind: api.Precommit, Height: 1, Round: 2})
	votes := []api.Vote{y, {Kind: api.Prevote, Height: 1, Round: 1, Id: y.Id, From: 3}, sealed(api.Vote{Kind: api.Prevote, Height: 1, Round: 1, Id: y.Id, From: 4})}
	votes[0] = sealed(y)
	w.is("C7", w.c.Lie(2, 0, api.Msg{Kind: api.MsgProposal, Proposal: api.Proposal{Height: 1, Round: 2, ValidRound: 1, Id: y.Id, From: 3}, Block: block, Votes: votes}), api.OK)
	w.is("C3", w.c.Deliver(0, false), api.OK)
	if got, _ := w.prevoted(0, 1); got.Round != 2 || got.Id != y.Id || x.Id == y.Id {
		t.Fatalf("node 0 has prevoted %+v", got)
	}
	// Now the liars have x decided at node 0, by precommits of round 0.
	w.clear()
	w.back(0, api.Vote{Kind: api.Precommit, Height: 1, Id: x.Id, Time: 10})
	if b, _ := w.block(0, 1); idOf(b) != x.Id {
		t.Fatalf("node 0 has decided another block")
	}
	got, e := w.c.Blame()
	w.is("C11", e, api.OK)
	if len(got) != 2 || got[0].Addr != 3 || got[1].Addr != 4 {
		t.Errorf("W6: %+v", got)
	}
}
