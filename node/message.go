package node

import (
	"assent/api"
	"assent/chain"
	"assent/council"
	"assent/wire"
)

// Deliver hands it a message from another node.
func (n *Node) Deliver(from int, b []byte) (answer api.Errno) {
	if e := n.ready(); e != api.OK {
		return e
	}
	m, e := wire.DecodeMsg(b)
	if e != api.OK {
		return e
	}
	defer func() { answer = n.caught(recover(), answer) }()
	switch m.Kind {
	case api.MsgStatus:
		return n.helpOn(from, m.Height)
	case api.MsgTx:
		return n.pool.Add(n.state, n.registry, m.Tx)
	case api.MsgEvidence:
		return n.misdeeds.Add(n.state, n.registry, m.Evidence)
	case api.MsgDecision:
		return n.hearDecision(m.Block, m.Cert)
	case api.MsgProposal:
		return n.hear(api.InProposal, m, n.refusesProposal(m))
	case api.MsgVote:
		return n.hear(api.InVote, m, n.refusesVote(m.Votes[0]))
	}
	return n.hear(api.InPolka, m, n.refusesPolka(m)) // MsgPolka: there is no other kind
}

// helpOn sends to one who is behind what was decided where he stands.
func (n *Node) helpOn(from int, height uint64) api.Errno {
	if from < 0 {
		return api.ErrSource
	}
	if height >= n.height() {
		return api.OK
	}
	b, c, e := n.archive.Load(height)
	if e == api.OK {
		n.send(from, api.Msg{Kind: api.MsgDecision, Block: b, Cert: c})
	}
	return e
}

// hearDecision takes what others have decided, if a certificate bears it out.
func (n *Node) hearDecision(b api.Block, c api.Cert) api.Errno {
	if !n.isDue(b.Header.Height) {
		return api.ErrSource
	}
	if c.Height != b.Header.Height || !isIdOf(c.Id, b) {
		return api.ErrCert
	}
	if e := chain.CheckCert(n.state.Council, n.registry, n.state.Chain, c); e != api.OK {
		return e
	}
	if e := chain.Valid(n.state, n.registry, b); e != api.OK {
		return e
	}
	n.decide(b, c, n.clock)
	return api.OK
}

// hear hands in what a message brings that nothing is wrong with, if it has not come already.
func (n *Node) hear(kind int, m api.Msg, refusal api.Errno) api.Errno {
	in := api.Input{Kind: kind, Proposal: m.Proposal, Block: m.Block, Votes: m.Votes}
	if refusal != api.OK || n.hasCome(in) {
		return refusal
	}
	in.Now = n.clock
	in.Good = kind != api.InVote && chain.Valid(n.state, n.registry, m.Block) == api.OK
	n.handIn(in)
	return api.OK
}

func (n *Node) refusesProposal(m api.Msg) api.Errno {
	p := m.Proposal
	switch {
	case !n.isDue(p.Height) || !n.isTurnOf(p.From, p.Round):
		return api.ErrSource
	case !n.isSealedProposal(p):
		return api.ErrSeal
	case !isIdOf(p.Id, m.Block) || m.Block.Header.Height != p.Height:
		return api.ErrInput
	case p.ValidRound >= 0 && !n.isPolka(m.Votes, p.ValidRound, p.Id):
		return api.ErrInput
	case !n.areSealed(m.Votes):
		return api.ErrSeal
	}
	return api.OK
}

func (n *Node) refusesVote(v api.Vote) api.Errno {
	switch {
	case !n.isDue(v.Height):
		return api.ErrSource
	case council.Index(n.state.Council, v.From) < 0:
		return api.ErrMember
	case !n.isSealed(v):
		return api.ErrSeal
	}
	return api.OK
}

func (n *Node) refusesPolka(m api.Msg) api.Errno {
	first := m.Votes[0] // a plain message has one
	switch {
	case !n.isDue(m.Block.Header.Height):
		return api.ErrSource
	case !isIdOf(first.Id, m.Block) || !n.isPolka(m.Votes, first.Round, first.Id):
		return api.ErrInput
	case !n.areSealed(m.Votes):
		return api.ErrSeal
	}
	return api.OK
}

// isTurnOf: does the member propose in that round?
func (n *Node) isTurnOf(a api.Addr, round int) bool {
	proposer, e := council.Proposer(n.state.Council, round)
	return e == api.OK && proposer == a
}

// isPolka: are they prevotes of that round for that block, by a quorum? In a plain message the members rise, so nobody counts twice.
func (n *Node) isPolka(votes []api.Vote, round int, id api.Hash) bool {
	var power uint64
	for _, v := range votes {
		at := council.Index(n.state.Council, v.From)
		if at < 0 || v.Kind != api.Prevote || v.Height != n.height() || v.Round != round || v.Id != id {
			return false
		}
		power += n.state.Council.Members[at].Power
	}
	return power >= council.Quorum(n.state.Council)
}

func (n *Node) areSealed(votes []api.Vote) bool {
	for _, v := range votes {
		if !n.isSealed(v) {
			return false
		}
	}
	return true
}

// isSealed: has its member signed that vote?
func (n *Node) isSealed(v api.Vote) bool {
	msg, e := wire.VoteBytes(n.state.Chain, v)
	return e == api.OK && n.registry.Check(v.From, msg, v.Seal)
}

func (n *Node) isSealedProposal(p api.Proposal) bool {
	msg, e := wire.ProposalBytes(n.state.Chain, p)
	return e == api.OK && n.registry.Check(p.From, msg, p.Seal)
}

func isIdOf(id api.Hash, b api.Block) bool {
	its, e := wire.BlockId(b.Header)
	return e == api.OK && its == id
}
