package node

import (
	"assent/api"
	"assent/chain"
	"assent/wire"
)

// task is what an engine asks for, and when the input came that made it ask.
type task struct {
	do  api.Do
	now uint64
}

// work is what follows of inputs at one height: a queue that grows while it is gone through, and, where a log is played, the records that are left of it.
type work struct {
	*Node
	begun *stage // at which it works: when the height is decided the node is at another one
	queue []task
	place int
	left  []record
}

// handIn writes an input down, has the engine take it, and works off what follows.
func (n *Node) handIn(in api.Input) {
	w := &work{Node: n, begun: n.stage}
	w.write(in)
	w.workOff()
}

// write hands an input in: not before it is safe on the disk does the engine take it, for what is signed of it is never undone.
func (w *work) write(in api.Input) {
	form, e := wire.EncodeInput(in)
	must(e)
	must(w.log.Append(form))
	must(w.log.Sync())
	w.take(in)
}

// take has the engine take an input. What it asks for goes to the end of the queue; if it refuses, that is nothing.
func (w *work) take(in api.Input) {
	w.noteCome(in)
	dos, _ := w.engine.Take(in)
	for _, d := range dos {
		w.queue = append(w.queue, task{do: d, now: in.Now})
	}
}

// workOff does what stands in the queue, till it is empty or the height is decided.
func (w *work) workOff() {
	for w.place < len(w.queue) && !w.isDecided() {
		t := w.queue[w.place]
		w.place++
		way(t.do.Kind)(w, t)
	}
	w.queue, w.place = nil, 0
}

func (w *work) isDecided() bool { return w.stage != w.begun }

// way is how a do of that kind is worked off.
func way(kind int) func(*work, task) {
	switch kind {
	case api.DoBuild:
		return (*work).build
	case api.DoPropose:
		return (*work).propose
	case api.DoVote:
		return (*work).vote
	case api.DoTimeout:
		return (*work).setWait
	case api.DoDecide:
		return (*work).conclude
	}
	return (*work).keepEvidence // DoEvidence: there is no other kind
}

// vote seals a vote, sends it, and hands it back. It is not written down: the same input brings forth the same vote.
func (w *work) vote(t task) {
	v := t.do.Vote
	seal, ok := w.sign(wire.VoteBytes(w.state.Chain, v))
	if !ok {
		return
	}
	v.Seal = seal
	votes := []api.Vote{v}
	w.broadcast(api.Msg{Kind: api.MsgVote, Votes: votes})
	w.take(api.Input{Kind: api.InVote, Now: t.now, Votes: votes})
}

// propose seals a proposal, sends it, and hands it back.
func (w *work) propose(t task) {
	m := api.Msg{Kind: api.MsgProposal, Proposal: t.do.Proposal, Block: t.do.Block, Votes: t.do.Votes}
	if !w.sealProposal(&m) {
		return
	}
	w.broadcast(m)
	w.take(api.Input{Kind: api.InProposal, Now: t.now, Proposal: m.Proposal, Block: m.Block, Votes: m.Votes, Good: true})
}

// build makes a block and hands it in. Of a log that is played the block is taken that was written down then; where others were written behind, none had been made.
func (w *work) build(t task) {
	if len(w.left) > 0 {
		if next := w.left[0]; next.in.Kind == api.InBuilt && next.in.Round == t.do.Round {
			w.left = w.left[1:]
			w.take(next.in)
		}
		return
	}
	if b, ok := w.newBlock(); ok {
		w.write(api.Input{Kind: api.InBuilt, Now: t.now, Round: t.do.Round, Block: b})
	}
}

func (w *work) setWait(t task) { w.addWait(t.do.Step, t.do.Round, later(t.now, t.do.Delay)) }

func (w *work) keepEvidence(t task) {
	member := t.do.Evidence.A.From
	if _, known := w.fresh[member]; !known {
		w.fresh[member] = t.do.Evidence
	}
}

func (w *work) conclude(t task) { w.decide(t.do.Block, t.do.Cert, t.now) }

// newBlock is a block of what waits; false, if none can be made: then the round goes by.
func (n *Node) newBlock() (api.Block, bool) {
	var last api.Cert
	if n.state.Height > 0 {
		var e api.Errno
		if _, last, e = n.archive.Load(n.state.Height); e != api.OK {
			return api.Block{}, false
		}
	}
	own := n.signer.Addr()
	txs := n.pool.Pick(n.state, n.registry, own)
	b, e := chain.Make(n.state, n.registry, txs, n.misdeeds.Pick(n.state, n.registry), last, own)
	return b, e == api.OK
}

// sealProposal seals the proposal of a message.
func (n *Node) sealProposal(m *api.Msg) bool {
	seal, ok := n.sign(wire.ProposalBytes(n.state.Chain, m.Proposal))
	m.Proposal.Seal = seal
	return ok
}

// sign seals what is to be signed, if that has a form. Own has a signer, or is asked for nothing.
func (n *Node) sign(msg []byte, refusal api.Errno) (api.Seal, bool) {
	if refusal != api.OK {
		return api.Seal{}, false
	}
	seal, e := n.signer.Sign(msg)
	return seal, e == api.OK
}
