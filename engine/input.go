package engine

import (
	"assent/api"
	"assent/council"
	"assent/wire"
)

// refusal is what is wrong with an input, by itself and for now.
func (e *Engine) refusal(in api.Input) api.Errno {
	switch {
	case in.Now > api.MaxTime || !isEmpty(unused(in)) || !e.canBe(in):
		return api.ErrInput
	case in.Kind == api.InStart && e.step != api.StepNew, in.Kind == api.InTimeout && e.step == api.StepNew:
		return api.ErrState
	}
	return api.OK
}

// unused is an input without the fields that its kind uses.
func unused(in api.Input) api.Input {
	switch in.Kind {
	case api.InProposal:
		in.Proposal, in.Block, in.Votes, in.Good = api.Proposal{}, api.Block{}, nil, false
	case api.InVote:
		in.Votes = nil
	case api.InPolka:
		in.Block, in.Votes, in.Good = api.Block{}, nil, false
	case api.InTimeout:
		in.Step, in.Round = 0, 0
	case api.InBuilt:
		in.Round, in.Block = 0, api.Block{}
	}
	return in
}

// isEmpty: it holds nothing beside its Kind and Now.
func isEmpty(in api.Input) bool {
	return in.Proposal == api.Proposal{} && isNoBlock(in.Block) && len(in.Votes) == 0 && !in.Good && in.Step == 0 && in.Round == 0
}

func isNoBlock(b api.Block) bool {
	lists := len(b.Txs) + len(b.Evidence) + len(b.Last.Marks)
	return b.Header == api.Header{} && lists == 0 && b.Last.Height == 0 && b.Last.Round == 0 && b.Last.Id == api.Hash{}
}

// canBe: what the input's kind uses is what an engine of this height may be handed.
func (e *Engine) canBe(in api.Input) bool {
	switch in.Kind {
	case api.InStart:
		return true
	case api.InProposal:
		return e.canBeProposal(in)
	case api.InVote:
		return len(in.Votes) == 1 && e.canBeVote(in.Votes[0])
	case api.InPolka:
		return e.canBePolka(in)
	case api.InTimeout:
		return in.Step >= api.StepPropose && in.Step <= api.StepPrecommit && in.Round >= 0 && in.Round <= e.round
	case api.InBuilt:
		_, ok := e.idOf(in.Block)
		return ok && in.Round == e.round && e.present.asked
	}
	return false
}

func (e *Engine) canBeProposal(in api.Input) bool {
	p := in.Proposal
	id, ok := e.idOf(in.Block)
	switch {
	case !ok || p.Id != id || p.Height != e.height || !isRound(p.Round) || p.ValidRound < -1 || p.ValidRound >= p.Round:
		return false
	case p.ValidRound == -1 && len(in.Votes) > 0, p.ValidRound >= 0 && !e.isPolka(in.Votes, p.ValidRound, p.Id):
		return false
	}
	return e.isTurnOf(p.From, p.Round) // last, for a late round takes many turns
}

func (e *Engine) canBePolka(in api.Input) bool {
	id, ok := e.idOf(in.Block)
	if !ok || len(in.Votes) == 0 {
		return false
	}
	round := in.Votes[0].Round
	return isRound(round) && e.isPolka(in.Votes, round, id)
}

func (e *Engine) canBeVote(v api.Vote) bool {
	isKind := v.Kind == api.Prevote || v.Kind == api.Precommit
	return isKind && v.Height == e.height && isRound(v.Round) && council.Index(e.council, v.From) >= 0
}

// isPolka: the votes are prevotes of that round for that id, by rising members who are a quorum.
func (e *Engine) isPolka(votes []api.Vote, round int, id api.Hash) bool {
	var ahead api.Addr // 0 is below every member
	var power uint64
	for _, v := range votes {
		want := api.Vote{Kind: api.Prevote, Height: e.height, Round: round, Id: id, Time: v.Time, From: v.From, Seal: v.Seal}
		at := council.Index(e.council, v.From)
		if at < 0 || v.From <= ahead || v != want {
			return false
		}
		ahead = v.From
		power += e.council.Members[at].Power
	}
	return power >= e.quorum
}

// idOf is the id of a block, if it has one and is of this height.
func (e *Engine) idOf(b api.Block) (api.Hash, bool) {
	id, refusal := wire.BlockId(b.Header)
	return id, refusal == api.OK && b.Header.Height == e.height
}

func isRound(n int) bool { return n >= 0 && n <= api.MaxRound }
