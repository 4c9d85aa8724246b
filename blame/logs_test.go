package blame_test

import (
	"slices"
	"testing"

	"assent/api"
	"assent/blame"
	"assent/disk"
	"assent/node"
	"assent/seal"
	"assent/wal"
	"assent/wire"
)

// split is a chain of the members 1 to 4, of which 1 and 2 are honest nodes that never hear of each other, and 3 and 4 lie.
type split struct {
	*world
	g     api.Genesis
	disks map[api.Addr]*disk.Disk
	nodes map[api.Addr]*node.Node
}

func newSplit(t *testing.T) *split {
	t.Helper()
	s := &split{world: &world{t: t, r: seal.New(), signers: map[api.Addr]*seal.Signer{}}, disks: map[api.Addr]*disk.Disk{}, nodes: map[api.Addr]*node.Node{}}
	s.g = api.Genesis{Chain: name, Time: 100, Params: api.Params{MinBond: 1, Seats: 8, Slash: 500, Period: 9, Age: 4, MaxTxs: 9, Propose: 5, Votes: 3, Pause: 2, Resend: 50, Trusting: 500, Drift: 3}}
	for a := range api.Addr(4) {
		s.g.Accounts = append(s.g.Accounts, api.Account{Addr: a + 1, Balance: 100, Bond: 10})
		s.signers[a+1], _ = s.r.Enter(a + 1)
	}
	for _, a := range []api.Addr{1, 2} {
		s.disks[a], _ = disk.New(1 << 22)
		s.open(a, 100)
	}
	s.c = s.nodes[1].State().Council
	return s
}

func (s *split) open(a api.Addr, now uint64) {
	s.t.Helper()
	n, e := node.Open(s.g, s.disks[a], s.r, s.signers[a], now)
	is(s.t, "node.Open", e, api.OK)
	s.nodes[a] = n
}

// crash takes the power from a node, and opens it anew on what is left.
func (s *split) crash(a api.Addr) {
	s.t.Helper()
	im, e := s.disks[a].Crash(nil, 0)
	is(s.t, "Crash", e, api.OK)
	s.disks[a], e = disk.Mount(im, 1<<22)
	is(s.t, "Mount", e, api.OK)
	s.open(a, s.nodes[a].Clock())
}

// tickTill lets the clock of a node go on till it has come so far.
func (s *split) tickTill(a api.Addr, far func(v api.View) bool) {
	s.t.Helper()
	for range 100 {
		if far(s.nodes[a].View()) {
			return
		}
		is(s.t, "Tick", s.nodes[a].Tick(s.nodes[a].Clock()+1), api.OK)
	}
	s.t.Fatalf("the node %d stands still at %+v", a, s.nodes[a].View())
}

// lie hands a node the votes of both liars.
func (s *split) lie(a api.Addr, v api.Vote) {
	s.t.Helper()
	for _, v.From = range []api.Addr{3, 4} {
		msg, e := wire.EncodeMsg(api.Msg{Kind: api.MsgVote, Votes: []api.Vote{s.sign(name, v)}})
		is(s.t, "EncodeMsg", e, api.OK)
		is(s.t, "Deliver", s.nodes[a].Deliver(2, msg), api.OK)
	}
}

// prevoted is what a node has prevoted, of the votes that it has signed.
func (s *split) prevoted(a api.Addr, round int) api.Hash {
	s.t.Helper()
	for _, v := range s.own(a) {
		if v.Kind == api.Prevote && v.Round == round {
			return v.Id
		}
	}
	s.t.Fatalf("the node %d has not prevoted in round %d", a, round)
	return none
}

// own are the votes of a node's signer.
func (s *split) own(a api.Addr) (votes []api.Vote) {
	for _, msg := range s.r.Signed(a) {
		if _, v, e := wire.ReadVoteBytes(msg); e == api.OK {
			votes = append(votes, s.sign(name, v))
		}
	}
	return votes
}

// logs are the votes that the honest nodes' logs of the height 1 show, and their own.
func (s *split) logs() (votes []api.Vote) {
	s.t.Helper()
	for _, a := range []api.Addr{1, 2} {
		_, records, e := wal.Open(s.disks[a], "wal-0000000000000001")
		is(s.t, "wal.Open", e, api.OK)
		for _, rec := range records {
			in, e := wire.DecodeInput(rec)
			is(s.t, "DecodeInput", e, api.OK)
			votes = append(votes, in.Votes...)
		}
		votes = append(votes, s.own(a)...)
	}
	return votes
}

// TestLogs is W6 with two nodes: the liars have one block decided in round 0 and another one in round 1, whether a node crashes meanwhile or not.
func TestLogs(t *testing.T) {
	for _, crash := range []bool{false, true} {
		s := newSplit(t)
		s.tickTill(1, func(v api.View) bool { return v.Step == api.StepPrevote })
		x := s.prevoted(1, 0)
		s.lie(1, api.Vote{Kind: api.Prevote, Height: 1, Id: x})
		s.lie(1, api.Vote{Kind: api.Precommit, Height: 1, Id: x, Time: 101})
		_, a, e := s.nodes[1].Block(1)
		is(t, "the node 1 has decided", e, api.OK)

		s.tickTill(2, func(v api.View) bool { return v.Step == api.StepPrevote })
		s.lie(2, api.Vote{Kind: api.Prevote, Height: 1, Id: x})
		if crash {
			s.crash(2)
		}
		s.tickTill(2, func(v api.View) bool { return v.Step == api.StepPrecommit })
		s.lie(2, api.Vote{Kind: api.Precommit, Height: 1, Id: x, Time: 101})
		s.tickTill(2, func(v api.View) bool { return v.Round == 1 })
		if crash {
			s.crash(2)
		}
		s.tickTill(2, func(v api.View) bool { return v.Step == api.StepPrevote })
		y := s.prevoted(2, 1)
		s.lie(2, api.Vote{Kind: api.Prevote, Height: 1, Round: 1, Id: y})
		s.lie(2, api.Vote{Kind: api.Precommit, Height: 1, Round: 1, Id: y, Time: 130})
		_, b, e := s.nodes[2].Block(1)
		is(t, "the node 2 has decided", e, api.OK)

		told := func(from api.Addr) api.Guilt {
			return forget(s.sign(name, api.Vote{Kind: api.Precommit, Height: 1, Id: x, Time: 101, From: from}), s.sign(name, api.Vote{Kind: api.Prevote, Height: 1, Round: 1, Id: y, From: from}))
		}
		s.want("W6", a, b, s.logs(), told(3), told(4))
		if p := blame.Power(s.c, s.blame("W6", a, b, s.logs())); p != 20 {
			t.Errorf("W6: the power %d", p)
		}
		s.guiltless(s.logs())
	}
}

// TestLogsLock: a node that has locked a block and prevoted another one in a later round has its reason in its log, and is not named.
func TestLogsLock(t *testing.T) {
	s := newSplit(t)
	// Node 1 locks its block x in round 0, but hears of no other precommit for it.
	s.tickTill(1, func(v api.View) bool { return v.Step == api.StepPrevote })
	x := s.prevoted(1, 0)
	s.lie(1, api.Vote{Kind: api.Prevote, Height: 1, Id: x})
	// Node 2 proposes y in round 1, for which the liars make a polka; it decides.
	s.tickTill(2, func(v api.View) bool { return v.Step == api.StepPrevote })
	s.lie(2, api.Vote{Kind: api.Prevote, Height: 1, Id: x})
	s.tickTill(2, func(v api.View) bool { return v.Step == api.StepPrecommit })
	s.lie(2, api.Vote{Kind: api.Precommit, Height: 1})
	s.tickTill(2, func(v api.View) bool { return v.Round == 1 && v.Step == api.StepPrevote })
	y := s.prevoted(2, 1)
	s.lie(2, api.Vote{Kind: api.Prevote, Height: 1, Round: 1, Id: y})
	block := s.proposed(2)
	s.lie(2, api.Vote{Kind: api.Precommit, Height: 1, Round: 1, Id: y, Time: 130})
	_, b, e := s.nodes[2].Block(1)
	is(t, "the node 2 has decided", e, api.OK)

	// In round 2 the liar 3 proposes y to node 1, with its polka: node 1 goes over to it.
	polka := []api.Vote{s.voteAt1(api.Prevote, 1, y, 2), s.voteAt1(api.Prevote, 1, y, 3), s.voteAt1(api.Prevote, 1, y, 4)}
	s.lie(1, api.Vote{Kind: api.Precommit, Height: 1})
	s.lie(1, api.Vote{Kind: api.Precommit, Height: 1, Round: 2}) // so it comes to round 2
	p := api.Proposal{Height: 1, Round: 2, ValidRound: 1, Id: y, From: 3}
	bytes, e := wire.ProposalBytes(name, p)
	is(t, "ProposalBytes", e, api.OK)
	p.Seal, _ = s.signers[3].Sign(bytes)
	msg, e := wire.EncodeMsg(api.Msg{Kind: api.MsgProposal, Proposal: p, Block: block, Votes: polka})
	is(t, "EncodeMsg", e, api.OK)
	is(t, "Deliver", s.nodes[1].Deliver(2, msg), api.OK)
	if got := s.prevoted(1, 2); got != y {
		t.Fatalf("the node 1 has prevoted %x", got[:2])
	}
	// And the liars have signed precommits for x by which, with node 1's, it is decided too.
	a := api.Cert{Height: 1, Id: x}
	for k, from := range []api.Addr{1, 3, 4} {
		for _, v := range append(s.own(1), s.voteAt1(api.Precommit, 0, x, 3), s.voteAt1(api.Precommit, 0, x, 4)) {
			if v.From == from && v.Kind == api.Precommit && v.Id == x {
				a.Marks = append(a.Marks, api.Mark{Index: []int{0, 2, 3}[k], Time: v.Time, Seal: v.Seal})
			}
		}
	}
	got := s.blame("W6", a, b, s.logs())
	if len(got) != 2 || got[0].Addr != 3 || got[1].Addr != 4 {
		t.Errorf("W6: %s", tell(got))
	}
	s.guiltless(s.logs())
	// Without its log it would look as if it had none.
	got = s.blame("B1", a, b, s.own(1))
	if !slices.ContainsFunc(got, func(g api.Guilt) bool { return g.Addr == 1 && g.Kind == api.GuiltForget }) {
		t.Errorf("B1: %s", tell(got))
	}
}

// voteAt1 is a vote of the height 1.
func (s *split) voteAt1(kind, round int, id api.Hash, from api.Addr) api.Vote {
	return s.sign(name, api.Vote{Kind: kind, Height: 1, Round: round, Id: id, From: from})
}

// proposed is the block that a node has proposed last.
func (s *split) proposed(a api.Addr) (b api.Block) {
	s.t.Helper()
	for _, o := range s.nodes[a].Out() {
		if m, e := wire.DecodeMsg(o.Bytes); e == api.OK && m.Kind == api.MsgProposal {
			b = m.Block
		}
	}
	return b
}

// guiltless: no two votes of an honest node are a guilt.
func (s *split) guiltless(votes []api.Vote) {
	s.t.Helper()
	for _, from := range []api.Addr{1, 2} {
		for _, a := range s.own(from) {
			for _, b := range s.own(from) {
				for _, kind := range []int{api.GuiltTwice, api.GuiltForget} {
					if blame.Guilty(name, s.c, s.r, api.Guilt{Addr: from, Kind: kind, A: a, B: b}, votes) == api.OK {
						s.t.Errorf("P17.1: %s and %s", tellVote(a), tellVote(b))
					}
				}
			}
		}
	}
}
