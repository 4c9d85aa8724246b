package engine

import "assent/api"

// work is one Take: the engine, the input's time, and what is to be done by now.
type work struct {
	*Engine
	now uint64
	dos []api.Do
}

// takeIn notes what the input brings; what follows of it is for the rules.
func (w *work) takeIn(in api.Input) {
	switch in.Kind {
	case api.InStart:
		w.begin(0)
	case api.InProposal:
		w.count(in.Votes)
		w.keep(in)
	case api.InVote:
		w.count(in.Votes)
	case api.InPolka:
		w.count(in.Votes)
		w.learn(in)
	case api.InTimeout:
		w.giveUp(in)
	case api.InBuilt:
		id, _ := w.idOf(in.Block)
		w.present.asked = false
		w.present.built = choice{round: -1, id: id, block: copyOf(in.Block)}
		w.offer(w.present.built)
	}
}

// count adds votes to the tally.
func (w *work) count(votes []api.Vote) {
	for _, v := range votes {
		added, _ := w.tally.Add(v) // that a tally takes them was looked at ahead
		w.report(added)
	}
}

func (w *work) report(a api.Added) {
	if a.Two {
		w.ask(api.Do{Kind: api.DoEvidence, Evidence: a.Both})
	}
}

// keep keeps a proposal, if its round is near and it is the first one of it.
func (w *work) keep(in api.Input) {
	p := in.Proposal
	if _, ok := w.kept[p.Round]; ok || !w.isNear(p.Round) {
		return
	}
	w.kept[p.Round] = proposal{id: p.Id, validRound: p.ValidRound, block: copyOf(in.Block), good: in.Good}
}

// learn makes a good block valid that others show with a later polka than the one that is known.
func (w *work) learn(in api.Input) {
	round := in.Votes[0].Round
	if in.Good && round > w.valid.round {
		w.valid = choice{round: round, id: in.Votes[0].Id, block: copyOf(in.Block), polka: copied(in.Votes)}
	}
}

// giveUp waits no longer, if what is over is what is being waited for.
func (w *work) giveUp(in api.Input) {
	if in.Round < w.round {
		return
	}
	switch {
	case in.Step == api.StepPropose && w.step == api.StepPropose:
		w.prevote(api.Hash{})
	case in.Step == api.StepPrevote && w.step == api.StepPrevote:
		w.precommit(api.Hash{}, 0)
	case in.Step == api.StepPrecommit && w.round < api.MaxRound: // whatever the step is
		w.begin(w.round + 1)
	}
}

// begin begins a round.
func (w *work) begin(round int) {
	w.round, w.step, w.present = round, api.StepPropose, attempt{}
	entered, _ := w.tally.Enter(round) // no round above MaxRound is begun, and none twice
	for _, a := range entered {
		w.report(a)
	}
	for r := range w.kept {
		if !w.isNear(r) {
			delete(w.kept, r)
		}
	}
	w.wait(api.StepPropose, w.propose)
	if w.isTurnOf(w.own, round) {
		w.lead()
	}
}

// lead proposes what is valid from a round before, or asks for a block.
func (w *work) lead() {
	if w.valid.round >= 0 && w.valid.round < w.round {
		w.offer(w.valid)
		return
	}
	w.present.asked = true
	w.ask(api.Do{Kind: api.DoBuild, Round: w.round})
}

// offer proposes a block.
func (w *work) offer(c choice) {
	p := api.Proposal{Height: w.height, Round: w.round, ValidRound: c.round, Id: c.id, From: w.own}
	w.present.proposed = &api.Msg{Kind: api.MsgProposal, Proposal: p, Block: c.block, Votes: c.polka}
	w.ask(api.Do{Kind: api.DoPropose, Proposal: p, Block: copyOf(c.block), Votes: copied(c.polka)})
}

func (w *work) prevote(id api.Hash) {
	w.vote(api.Prevote, id, 0)
	w.step = api.StepPrevote
}

func (w *work) precommit(id api.Hash, time uint64) {
	w.vote(api.Precommit, id, time)
	w.step = api.StepPrecommit
}

// vote asks for a vote, if own has one at all.
func (w *work) vote(kind int, id api.Hash, time uint64) {
	if w.member {
		v := api.Vote{Kind: kind, Height: w.height, Round: w.round, Id: id, Time: time, From: w.own}
		w.ask(api.Do{Kind: api.DoVote, Vote: v})
	}
}

// wait asks for a wait of so many ticks in the first round, and as many more each round.
func (w *work) wait(step int, ticks uint64) {
	w.ask(api.Do{Kind: api.DoTimeout, Step: step, Round: w.round, Delay: ticks * uint64(w.round+1)})
}

func (w *work) ask(d api.Do) { w.dos = append(w.dos, d) }
