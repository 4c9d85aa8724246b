package engine

import "assent/api"

// settle goes through the rules, each time from the first on, till none does anything.
func (w *work) settle() {
	for w.isUnderWay() && w.goOn() {
	}
}

// goOn does what the first rule that applies says; false: none does. Ahead of all stand the decision and the skip, so that nobody votes in a round that is over.
func (w *work) goOn() bool {
	rules := [...]func(*work) bool{
		(*work).decide,
		(*work).skip,
		(*work).answerNew,
		(*work).answerOld,
		(*work).waitForPrevotes,
		(*work).lock,
		(*work).passOn,
		(*work).waitForPrecommits,
	}
	for _, rule := range rules {
		if rule(w) {
			return true
		}
	}
	return false
}

// decide is R1: a quorum has precommitted a block that is known.
func (w *work) decide() bool {
	for round := w.round - api.Window; round <= w.round+api.Window; round++ {
		c, ok := w.chosen(api.Precommit, round)
		if !ok {
			continue
		}
		cert, _ := w.tally.Cert(round, c.id) // a quorum is there
		w.block, w.cert, w.step = c.block, cert, api.StepDone
		w.ask(api.Do{Kind: api.DoDecide, Block: copyOf(c.block), Cert: certOf(cert)})
		return true
	}
	return false
}

// skip is R2: more than a third is further on.
func (w *work) skip() bool {
	round, ok := w.tally.Skip()
	if ok {
		w.begin(round)
	}
	return ok
}

// answerNew is R3: a prevote on a block that is proposed for the first time.
func (w *work) answerNew() bool {
	p, ok := w.awaited()
	if !ok || p.validRound >= 0 {
		return false
	}
	w.answer(p, w.locked.round < 0)
	return true
}

// answerOld is R4: a prevote on a block that has had its polka in a round before.
func (w *work) answerOld() bool {
	p, ok := w.awaited()
	if !ok || p.validRound < 0 {
		return false
	}
	w.answer(p, w.locked.round <= p.validRound)
	return true
}

// waitForPrevotes is R5: a quorum has prevoted, for whatever it be.
func (w *work) waitForPrevotes() bool {
	if w.step != api.StepPrevote || w.present.prevotes || w.tally.Any(api.Prevote, w.round) < w.quorum {
		return false
	}
	w.present.prevotes = true
	w.wait(api.StepPrevote, w.votes)
	return true
}

// lock is R6: a quorum has prevoted a block that is known. Who has precommitted in this round already only learns that it is valid.
func (w *work) lock() bool {
	if w.present.polka || w.step != api.StepPrevote && w.step != api.StepPrecommit {
		return false
	}
	c, ok := w.chosen(api.Prevote, w.round)
	if !ok {
		return false
	}
	w.present.polka = true
	if w.step == api.StepPrevote {
		w.locked = c
		w.precommit(c.id, min(max(w.now, c.block.Header.Time+1), api.MaxTime))
	}
	c.polka = w.prevotesFor(c.id)
	w.valid = c
	return true
}

// passOn is R7: a quorum has prevoted for none.
func (w *work) passOn() bool {
	id, ok := w.tally.Quorum(api.Prevote, w.round)
	if w.step != api.StepPrevote || !ok || id != (api.Hash{}) {
		return false
	}
	w.precommit(api.Hash{}, 0)
	return true
}

// waitForPrecommits is R8: a quorum has precommitted, for whatever it be.
func (w *work) waitForPrecommits() bool {
	if w.present.precommits || w.tally.Any(api.Precommit, w.round) < w.quorum {
		return false
	}
	w.present.precommits = true
	w.wait(api.StepPrecommit, 2*w.votes)
	return true
}

// awaited is the round's proposal, as long as it is waited for.
func (w *work) awaited() (proposal, bool) {
	p, ok := w.kept[w.round]
	return p, ok && w.step == api.StepPropose
}

// answer prevotes for a good block, if the lock's round leaves own free, or own is locked on that very block; else for none.
func (w *work) answer(p proposal, free bool) {
	if p.good && (free || w.locked.id == p.id) {
		w.prevote(p.id)
		return
	}
	w.prevote(api.Hash{})
}

// chosen is the block for which a quorum has voted in that round, if it is one, and known.
func (w *work) chosen(kind, round int) (choice, bool) {
	id, _ := w.tally.Quorum(kind, round)
	if id == (api.Hash{}) {
		return choice{}, false
	}
	block, ok := w.known(id)
	return choice{round: round, id: id, block: block}, ok
}

// known is the kept block of an id. Of several, of which the header alone is the same, the first of these counts.
func (w *work) known(id api.Hash) (api.Block, bool) {
	least := -1
	for round, p := range w.kept {
		if p.good && p.id == id && (least < 0 || round < least) {
			least = round
		}
	}
	if least >= 0 {
		return w.kept[least].block, true
	}
	for _, c := range [...]choice{w.valid, w.locked, w.present.built} {
		if c.id == id {
			return c.block, true
		}
	}
	return api.Block{}, false
}

// prevotesFor are those that the tally holds of the present round for a block.
func (w *work) prevotesFor(id api.Hash) []api.Vote {
	var polka []api.Vote
	for _, v := range w.tally.Votes(api.Prevote, w.round) {
		if v.Id == id {
			polka = append(polka, v)
		}
	}
	return polka
}
