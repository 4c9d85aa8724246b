package engine_test

import (
	"slices"
	"testing"

	"assent/api"
)

// TestTimeoutsOver: a wait counts in its round and its step alone; that for precommits in every step.
func TestTimeoutsOver(t *testing.T) {
	w := begun(t, 4)
	w.next()
	w.all("E4: a round before", over(api.StepPropose, 0), over(api.StepPrevote, 0), over(api.StepPrecommit, 0))
	w.all("E4: another step", over(api.StepPrevote, 1))
	w.at("E4", 1, api.StepPropose)
	w.take("E4", over(api.StepPropose, 1), w.prevote(1, none))
	w.at("E4", 1, api.StepPrevote)
	w.all("E4: another step", over(api.StepPropose, 1), over(api.StepPropose, 0), over(api.StepPrevote, 0))
	w.take("E4", over(api.StepPrevote, 1), w.precommit(1, none, 0))
	w.at("E4", 1, api.StepPrecommit)
	w.all("E4: another step", over(api.StepPropose, 1), over(api.StepPrevote, 1), over(api.StepPrecommit, 0))
	w.take("E4: StepPrecommit", over(api.StepPrecommit, 1), doWait(api.StepPropose, 2, 9))
	w.take("E4: StepPropose", over(api.StepPrecommit, 2), doWait(api.StepPropose, 3, 12), doBuild(3))
	w.take("E4", over(api.StepPropose, 3), w.prevote(3, none))
	w.take("E4: StepPrevote", over(api.StepPrecommit, 3), doWait(api.StepPropose, 4, 15))
	w.chosen("E4", -1, none, -1, none)
}

// TestDelays: they grow by the round, up to the greatest numbers.
func TestDelays(t *testing.T) {
	for _, p := range []api.Params{{Propose: 1, Votes: 1}, {Propose: 7, Votes: 1000}, {Propose: api.MaxTicks, Votes: api.MaxTicks}} {
		for _, round := range []int{1, 2, 100, api.MaxRound} {
			w := worldOf(t, councilOf(1, 1, 1, 1), p, 9)
			n := uint64(round + 1)
			w.take("E5", start(), doWait(api.StepPropose, 0, p.Propose))
			w.all("R2", prevoted(round, none, 1))
			w.take("R2", prevoted(round, none, 2), doWait(api.StepPropose, round, p.Propose*n))
			w.all("E4", prevoted(round, none, 3))
			w.take("R5", over(api.StepPropose, round), doWait(api.StepPrevote, round, p.Votes*n))
			w.all("R8", precommitted(round, none, 1), precommitted(round, none, 2))
			w.take("R8", precommitted(round, none, 3), doWait(api.StepPrecommit, round, 2*p.Votes*n))
		}
	}
}

// atLast is in the last round, for a member who is not its proposer.
func atLast(t *testing.T, self api.Addr, more ...api.Do) *world {
	t.Helper()
	w := begun(t, self)
	w.all("R2", prevoted(api.MaxRound, none, 1))
	w.take("R2", prevoted(api.MaxRound, none, 2), append([]api.Do{doWait(api.StepPropose, api.MaxRound, 3*65536)}, more...)...)
	return w
}

// TestLastRound: from the last round nothing leads on but a decision.
func TestLastRound(t *testing.T) {
	w := atLast(t, 3)
	w.all("E4: MaxRound", over(api.StepPrecommit, api.MaxRound))
	w.at("E4: MaxRound", api.MaxRound, api.StepPropose)
	w.take("E4", over(api.StepPropose, api.MaxRound), w.prevote(api.MaxRound, none))
	w.all("E4: MaxRound", over(api.StepPrecommit, api.MaxRound))
	w.take("E4", over(api.StepPrevote, api.MaxRound), w.precommit(api.MaxRound, none, 0))
	w.all("E4: MaxRound", over(api.StepPrecommit, api.MaxRound))
	w.at("E4: MaxRound", api.MaxRound, api.StepPrecommit)
	w.all("E4", proposed(api.MaxRound-3, -1, x), precommitted(api.MaxRound, idOf(x), 1), precommitted(api.MaxRound, idOf(x), 2))
	w.take("R1", precommitted(api.MaxRound, idOf(x), 4), doDecide(x, cert(api.MaxRound, x, 1, 2, 4)))

	last := turn(api.MaxRound)
	w = atLast(t, last, doBuild(api.MaxRound))
	w.take("E4", built(api.MaxRound, x), doPropose(api.MaxRound, -1, x))
	w.take("R3", proposed(api.MaxRound, -1, x), w.prevote(api.MaxRound, idOf(x)))

	w = begun(t, 3)
	w.all("R2", prevoted(api.MaxRound-1, none, 1))
	w.take("R2", prevoted(api.MaxRound-1, none, 2), slices.Concat([]api.Do{doWait(api.StepPropose, api.MaxRound-1, 3*65535)}, turnOf(3, api.MaxRound-1))...)
	w.take("E4: the last but one", over(api.StepPrecommit, api.MaxRound-1), doWait(api.StepPropose, api.MaxRound, 3*65536))
}

// turnOf is what the beginning of a round asks a member for: a block, if it is its turn.
func turnOf(a api.Addr, round int) []api.Do {
	if turn(round) == a {
		return []api.Do{doBuild(round)}
	}
	return nil
}

// TestTurns: who is asked for a block, by powers that are unlike.
func TestTurns(t *testing.T) {
	turns := []api.Addr{3, 2, 1, 3, 2, 3} // chapter 5's example
	for self := api.Addr(0); self <= 4; self++ {
		w := worldOf(t, councilOf(1, 2, 3), ticks, self)
		in := start()
		for round := range 12 {
			want := []api.Do{doWait(api.StepPropose, round, 3*uint64(round+1))}
			if turns[round%6] == self {
				want = append(want, doBuild(round))
			}
			w.take("E5", in, want...)
			for from := api.Addr(0); from <= 4; from++ {
				_, e := worldOf(t, councilOf(1, 2, 3), ticks, self).e.Take(proposedBy(from, round, -1, x))
				if (e == api.OK) != (turns[round%6] == from) {
					t.Errorf("E2: round %d: a proposal of %d: error %d", round, from, e)
				}
			}
			in = over(api.StepPrecommit, round)
		}
	}
}

// TestProposeValid: what is valid from a round before is proposed with its polka; else a block is asked for.
func TestProposeValid(t *testing.T) {
	w := begun(t, 2)
	w.take("R3", proposed(0, -1, x), w.prevote(0, idOf(x)))
	w.all("R6", prevoted(0, idOf(x), 1), prevoted(0, idOf(x), 3))
	w.take("R6", prevoted(0, idOf(x), 4), doWait(api.StepPrevote, 0, 2), w.precommit(0, idOf(x), 6))
	w.all("E4", prevoted(0, idOf(x), 2)) // comes too late for the polka
	again := doPropose(1, 0, x, polka(0, x, 1, 3, 4)...)
	w.next(again)
	w.refused("E2: nothing was asked for", built(1, x), api.ErrInput)
	w.take("R4", proposed(1, 0, x), w.prevote(1, idOf(x)))

	// Of a later round than the present one it can be only ahead of the beginning, and is not proposed then.
	w = newWorld(t, 1)
	w.all("E4: StepNew", shown(0, x, 1, 2, 3))
	w.chosen("E4: StepNew", -1, none, 0, idOf(x))
	w.at("E4: StepNew", 0, api.StepNew)
	w.take("E5: valid in this round", start(), doWait(api.StepPropose, 0, 3), doBuild(0))

	// Valid in the round that is skipped to: not below it.
	w = newWorld(t, 2)
	w.all("E4: StepNew", shown(1, y, 1, 3, 4))
	w.take("E5: valid in the round that is begun", start(), doWait(api.StepPropose, 0, 3), doWait(api.StepPropose, 1, 6), doBuild(1))

	// Valid in the round before.
	w = newWorld(t, 3)
	w.all("E4: StepNew", shown(1, y, 1, 2, 4))
	w.take("E5", start(), doWait(api.StepPropose, 0, 3), doWait(api.StepPropose, 1, 6))
	w.next(doPropose(2, 1, y, polka(1, y, 1, 2, 4)...))
}

// TestLearn: a polka that is shown makes a good block valid, if its round is above.
func TestLearn(t *testing.T) {
	w := begun(t, 9)
	w.next()
	w.next()
	w.all("E4: not a good one", bad(shown(1, x, 1, 2, 3)))
	w.chosen("E4: not a good one", -1, none, -1, none)
	w.all("E4", shown(0, x, 1, 2, 3))
	w.chosen("E4", -1, none, 0, idOf(x))
	w.take("E4: the same round", shown(0, y, 1, 2, 3), doEvidences(0, x, y, 1, 2, 3)...)
	w.chosen("E4: the same round", -1, none, 0, idOf(x))
	w.take("E4", shown(1, y, 2, 3, 4), doEvidences(1, x, y, 2, 3)...)
	w.chosen("E4", -1, none, 1, idOf(y))
	w.all("E4: a round before", shown(0, x, 1, 2, 3))
	w.chosen("E4: a round before", -1, none, 1, idOf(y))
	w.all("E4", shown(2, x, 1, 2, 3))
	w.chosen("E4", -1, none, 2, idOf(x))
	w.at("E4", 2, api.StepPropose)
	w.take("R2", shown(7, y, 1, 2, 3), doWait(api.StepPropose, 7, 24))
	w.chosen("E4", -1, none, 7, idOf(y))
	w.all("E4: behind the window", shown(3, x, 1, 2, 3))
	w.chosen("E4: behind the window", -1, none, 7, idOf(y))

	// A round that is behind the window makes valid as well, if nothing later is.
	w = in(t, 9)
	w.all("E4", shown(1, x, 1, 2, 3))
	w.chosen("E4", -1, none, 1, idOf(x))
	w.holds("E8", heldPolka(x, polka(1, x, 1, 2, 3)...)) // the tally holds nothing of it

	// What was valid by a polka of others is locked by one's own tally alone.
	w = begun(t, 2)
	w.take("E4", over(api.StepPropose, 0), w.prevote(0, none))
	w.take("R6", later(8, shown(0, x, 1, 3, 4)), doWait(api.StepPrevote, 0, 2), w.precommit(0, idOf(x), 8))
	w.chosen("R6", 0, idOf(x), 0, idOf(x))
}

// TestValidPolka: the polka of a block that was shown is what came, seals and all.
func TestValidPolka(t *testing.T) {
	w := begun(t, 3)
	in := shown(1, y, 1, 2, 4)
	for k := range in.Votes {
		in.Votes[k].Seal = api.Seal{byte(k + 1)}
	}
	w.take("R2", in, doWait(api.StepPropose, 1, 6))
	want := slices.Clone(in.Votes)
	w.holds("E8", append([]api.Msg{heldPolka(y, want...)}, heldVotes(want...)...)...)
	w.next(doPropose(2, 1, y, want...))
	w.holds("E8", append([]api.Msg{heldProposal(2, 1, y, want...), heldPolka(y, want...)}, heldVotes(want...)...)...)
}

// TestKeep: of each round the first proposal is kept, from Window behind to Window ahead, and only as long.
func TestKeep(t *testing.T) {
	// Which proposals are kept is seen by what can be decided.
	knows := func(w *world, b api.Block) bool {
		round := w.e.View().Round
		for from := api.Addr(1); from <= 3; from++ {
			dos, _ := w.e.Take(precommitted(round, idOf(b), from))
			if len(dos) > 0 && dos[len(dos)-1].Kind == api.DoDecide {
				return true
			}
		}
		return false
	}
	for _, ahead := range []int{-5, -4, -3, -2, -1, 0, 1, 2, 3, 4, 5} {
		w := in(t, 6)
		w.all("E4", proposed(6+ahead, -1, x))
		near := ahead >= -3 && ahead <= 3
		if got := knows(w, x); got != near {
			t.Errorf("E6: a proposal of %d rounds ahead: %t", ahead, got)
		}
		w = in(t, 6)
		w.all("E4", bad(proposed(6+ahead, -1, x)))
		if knows(w, x) {
			t.Errorf("E6: not a good proposal of %d rounds ahead", ahead)
		}
	}
	for rounds := range 8 {
		w := in(t, 3)
		w.all("E4", proposed(4, -1, x))
		for range rounds {
			w.next()
		}
		if got := knows(w, x); got != (rounds <= 4) { // round 7 is the last one that reaches back to 4
			t.Errorf("E6: %d rounds on: %t", rounds, got)
		}
	}
	// With a skip, too.
	for _, round := range []int{7, 8, 100} {
		w := in(t, 3)
		w.all("E4", proposed(4, -1, x), prevoted(round, none, 1))
		w.take("R2", prevoted(round, none, 2), doWait(api.StepPropose, round, 3*uint64(round+1)))
		if got := knows(w, x); got != (round == 7) {
			t.Errorf("E6: skipped to %d: %t", round, got)
		}
	}
	// The second one of a round is let go, be the first one good or not.
	w := in(t, 0)
	w.all("E4", bad(proposed(1, -1, x)), proposed(1, -1, x), proposed(1, -1, y))
	if knows(w, y) {
		t.Errorf("E4: two proposals of a round")
	}
	// What is let go has its votes counted all the same.
	w = in(t, 1)
	w.take("R2: the votes of what is let go", proposed(5, 2, y), doWait(api.StepPropose, 2, 9))
	if knows(w, y) {
		t.Errorf("E4: too far ahead when it came, and kept")
	}
}

// TestKeepVotes is the same for one that comes with votes.
func TestKeepVotes(t *testing.T) {
	w := in(t, 1)
	w.all("E4", proposed(1, -1, x))
	w.take("E4: let go, its votes counted", proposed(1, 0, y))
	w.holds("E8", heldVotes(polka(0, y, 1, 2, 3)...)...)
}

// TestBuiltGoes: what was built counts in its round alone.
func TestBuiltGoes(t *testing.T) {
	w := begun(t, 1)
	w.take("E4", built(0, x), doPropose(0, -1, x))
	w.all("R1", precommitted(0, idOf(x), 2), precommitted(0, idOf(x), 3))
	w.next()
	w.all("E6", precommitted(0, idOf(x), 4))
	w.undecided("E6: the built block is gone")
	w.holds("E8: no proposal of this round", heldVotes(precommitted(0, idOf(x), 2).Votes[0], precommitted(0, idOf(x), 3).Votes[0], precommitted(0, idOf(x), 4).Votes[0])...)

	w = begun(t, 1)
	w.take("E4", built(0, x), doPropose(0, -1, x))
	w.take("E4", over(api.StepPropose, 0), w.prevote(0, none))
	w.all("R6", prevoted(0, idOf(x), 2), prevoted(0, idOf(x), 3))
	w.take("R6: built", prevoted(0, idOf(x), 4), doWait(api.StepPrevote, 0, 2), w.precommit(0, idOf(x), 6))
	w.next()
	w.all("R1", precommitted(0, idOf(x), 2), precommitted(0, idOf(x), 3))
	w.take("R1: it is locked and valid", precommitted(0, idOf(x), 4), doDecide(x, cert(0, x, 2, 3, 4)))
}

// TestWhichBlock: of several blocks of one id the good proposal's of the least round counts, then Valid's, Locked's, the built one.
func TestWhichBlock(t *testing.T) {
	decide := func(w *world, want api.Block) {
		w.t.Helper()
		round := w.e.View().Round
		for from := api.Addr(1); from <= 3; from++ {
			dos, e := w.e.Take(precommitted(round, idOf(x), from))
			if from == 3 && (e != api.OK || len(dos) == 0 || dos[len(dos)-1].Kind != api.DoDecide) {
				w.t.Fatalf("R1: not decided:%s", tell(dos))
			}
		}
		w.decided("E6", want, cert(round, x, 1, 2, 3))
	}
	five, six, seven, eight := with(x, 50), with(x, 60), with(x, 70), with(x, 80)
	w := in(t, 2)
	w.all("E4", proposed(3, -1, five), proposed(1, -1, six), proposed(2, -1, seven), bad(proposed(0, -1, eight)))
	decide(w, six)

	w = in(t, 2)
	w.all("E4", shown(1, five, 1, 2, 3), proposed(5, -1, six))
	decide(w, six)
	w = in(t, 2)
	w.all("E4", shown(1, five, 1, 2, 3), bad(proposed(2, -1, six)))
	decide(w, five)

	// Locked on one, another one is valid with the same id.
	locked := func() *world {
		w := begun(t, 1)
		w.take("E4", built(0, five), doPropose(0, -1, five))
		w.take("E4", over(api.StepPropose, 0), w.prevote(0, none))
		w.all("R6", prevoted(0, idOf(x), 2), prevoted(0, idOf(x), 3))
		w.take("R6", prevoted(0, idOf(x), 4), doWait(api.StepPrevote, 0, 2), w.precommit(0, idOf(x), 6))
		return w
	}
	w = locked()
	decide(w, five)
	w = locked()
	w.take("R2", shown(1, six, 2, 3, 4), doWait(api.StepPropose, 1, 6))
	w.chosen("E4", 0, idOf(x), 1, idOf(x))
	decide(w, six)
	w = locked()
	w.take("R2", shown(1, y, 2, 3, 4), doWait(api.StepPropose, 1, 6))
	w.chosen("E4: valid is another block", 0, idOf(x), 1, idOf(y))
	decide(w, five)
	w = locked()
	w.take("R2", shown(1, y, 2, 3, 4), doWait(api.StepPropose, 1, 6))
	w.next()
	w.next()
	w.next(doPropose(4, 1, y, polka(1, y, 2, 3, 4)...))
	decide(w, five)

	// Locked ahead of what was built later.
	w = locked()
	w.take("R2", shown(4, y, 2, 3, 4), doWait(api.StepPropose, 4, 15), doBuild(4)) // y is valid, but not from a round before
	w.take("E4", built(4, seven), doPropose(4, -1, seven))
	decide(w, five)

	// Valid ahead of what was built.
	w = newWorld(t, 1)
	w.all("E4", shown(0, six, 2, 3, 4))
	w.take("E5", start(), doWait(api.StepPropose, 0, 3), doBuild(0))
	w.take("E4", built(0, seven), doPropose(0, -1, seven))
	decide(w, six)
	w = begun(t, 1)
	w.take("E4", built(0, seven), doPropose(0, -1, seven))
	decide(w, seven)
	w = begun(t, 1)
	w.take("E4", built(0, seven), doPropose(0, -1, seven))
	w.take("R3", proposed(0, -1, eight), w.prevote(0, idOf(x)))
	decide(w, eight)

	// What R6 makes valid is the one that counted then.
	w = begun(t, 2)
	w.take("R3", proposed(0, -1, five), w.prevote(0, idOf(x)))
	w.all("R6", prevoted(0, idOf(x), 1), prevoted(0, idOf(x), 2))
	w.take("R6", prevoted(0, idOf(x), 3), doWait(api.StepPrevote, 0, 2), w.precommit(0, idOf(x), 6))
	w.next(doPropose(1, 0, five, polka(0, x, 1, 2, 3)...))
}

// TestHeld: own's proposal, what is valid, the votes in the tally's order.
func TestHeld(t *testing.T) {
	w := begun(t, 1)
	w.holds("E8")
	w.take("E4", built(0, x), doPropose(0, -1, x))
	w.holds("E8", heldProposal(0, -1, x))
	w.take("R3", proposed(0, -1, x), w.prevote(0, idOf(x)))
	w.all("E4", precommitted(0, none, 2), prevoted(0, idOf(x), 3), prevoted(0, idOf(x), 1), prevoted(7, none, 2))
	votes := []api.Vote{vote(api.Prevote, 0, idOf(x), 1), vote(api.Prevote, 0, idOf(x), 3), vote(api.Precommit, 0, none, 2), vote(api.Prevote, 7, none, 2)}
	w.holds("E8", append([]api.Msg{heldProposal(0, -1, x)}, heldVotes(votes...)...)...)
	w.take("R6", prevoted(0, idOf(x), 4), doWait(api.StepPrevote, 0, 2), w.precommit(0, idOf(x), 6))
	votes = slices.Insert(votes, 2, vote(api.Prevote, 0, idOf(x), 4))
	w.holds("E8", append([]api.Msg{heldProposal(0, -1, x), heldPolka(x, polka(0, x, 1, 3, 4)...)}, heldVotes(votes...)...)...)
	w.next()
	w.holds("E8: the next round", append([]api.Msg{heldPolka(x, polka(0, x, 1, 3, 4)...)}, heldVotes(votes...)...)...)
}

// TestHeldProposal: what own has proposed stays what it was, though another block be valid by now.
func TestHeldProposal(t *testing.T) {
	w := newWorld(t, 3)
	w.all("E4", shown(1, y, 1, 2, 4))
	w.take("E5", start(), doWait(api.StepPropose, 0, 3), doWait(api.StepPropose, 1, 6))
	w.next(doPropose(2, 1, y, polka(1, y, 1, 2, 4)...))
	w.all("E4", shown(2, x, 1, 2, 4))
	w.chosen("E4", -1, none, 2, idOf(x))
	held := append([]api.Msg{heldProposal(2, 1, y, polka(1, y, 1, 2, 4)...), heldPolka(x, polka(2, x, 1, 2, 4)...)}, heldVotes(polka(1, y, 1, 2, 4)...)...)
	w.holds("E8", append(held, heldVotes(polka(2, x, 1, 2, 4)...)...)...)
	// And it is not known by that: own's proposal has not come back.
	w.all("R1", precommitted(2, idOf(y), 1), precommitted(2, idOf(y), 2))
	w.take("R1: y is not kept", precommitted(2, idOf(y), 4), doWait(api.StepPrecommit, 2, 12))
	w.undecided("E6")
}

// TestEvidence: of each vote that contradicts one that is held, in its order, each time.
func TestEvidence(t *testing.T) {
	for _, w := range []*world{newWorld(t, 9), begun(t, 9)} { // ahead of the beginning, too
		w.all("E4", prevoted(0, idOf(x), 1), prevoted(0, none, 2), precommitted(0, idOf(x), 1), precommitted(9, idOf(x), 2))
		two := doEvidence(vote(api.Prevote, 0, idOf(x), 1), vote(api.Prevote, 0, idOf(y), 1))
		for range 2 {
			w.take("E4: InVote", prevoted(0, idOf(y), 1), two)
		}
		w.take("E4: for none", prevoted(0, none, 1), doEvidence(vote(api.Prevote, 0, idOf(x), 1), vote(api.Prevote, 0, none, 1)))
		w.take("E4: a precommit", precommitted(0, none, 1), doEvidence(vote(api.Precommit, 0, idOf(x), 1), vote(api.Precommit, 0, none, 1)))
		w.take("E4: aside", precommitted(9, none, 2), doEvidence(vote(api.Precommit, 9, idOf(x), 2), vote(api.Precommit, 9, none, 2)))
		three := []api.Do{two, doEvidence(vote(api.Prevote, 0, idOf(y), 2), vote(api.Prevote, 0, none, 2))}
		w.take("E4: InPolka", bad(shown(0, y, 1, 2, 3)), three...)
		w.take("E4: InProposal", bad(proposed(3, 0, y)), three...)
		w.all("E4: behind", precommitted(8, idOf(y), 2)) // a later one of this member is held
	}
	// It comes ahead of what the input leads to.
	w := begun(t, 4)
	w.take("R3", proposed(0, -1, x), w.prevote(0, idOf(x)))
	w.all("E4", prevoted(0, idOf(y), 1))
	w.take("E4", shown(0, x, 1, 2, 3), doEvidences(0, y, x, 1)[0], doWait(api.StepPrevote, 0, 2))
	w.chosen("E4: valid by what came", -1, none, 0, idOf(x))
}

// TestLaterHeight: all goes by the engine's own height, up to the last one.
func TestLaterHeight(t *testing.T) {
	b := blockAt(api.MaxHeight, 5)
	w := worldAt(t, api.MaxHeight, 2)
	w.take("E5", start(), doWait(api.StepPropose, 0, 3))
	high := func(v api.Vote) api.Vote {
		v.Height = api.MaxHeight
		return v
	}
	in := proposed(0, -1, b)
	w.refused("E2: another height", in, api.ErrInput)
	w.refused("E2: another height", proposed(0, -1, x), api.ErrInput)
	in.Proposal.Height = api.MaxHeight
	w.take("R3", in, api.Do{Kind: api.DoVote, Vote: high(vote(api.Prevote, 0, idOf(b), 2))})
	w.refused("E2: another height", prevoted(0, idOf(b), 1), api.ErrInput)
	for from := api.Addr(1); from <= 2; from++ {
		w.all("R1", voted(high(vote(api.Precommit, 0, idOf(b), from))))
	}
	c := cert(0, b, 1, 2, 3)
	c.Height = api.MaxHeight
	w.take("R1", voted(high(vote(api.Precommit, 0, idOf(b), 3))), doDecide(b, c))
}

// TestTakeEnds: with 64 members who stand in as many rounds a Take ends, and each round that it begins is above the one ahead.
func TestTakeEnds(t *testing.T) {
	powers := make([]uint64, api.MaxSeats)
	for k := range powers {
		powers[k] = 1 << 53
	}
	w := worldOf(t, councilOf(powers...), api.Params{Propose: api.MaxTicks, Votes: api.MaxTicks}, 7)
	for k := range powers {
		from := api.Addr(k + 1)
		w.all("E4", prevoted(k*1000+5, none, from), precommitted(k*1000+6, idOf(x), from), prevoted(min(k, 3), idOf(y), from))
	}
	in, ahead, begun := start(), -1, 0
	for range 200 {
		dos, e := w.e.Take(in)
		if e != api.OK {
			t.Fatalf("E16: error %d", e)
		}
		for _, d := range dos {
			if d.Kind == api.DoTimeout && d.Step == api.StepPropose {
				if begun++; d.Round <= ahead {
					t.Fatalf("E16: round %d behind round %d", d.Round, ahead)
				}
				ahead = d.Round
			}
		}
		in = over(api.StepPrecommit, w.e.View().Round)
	}
	if begun < 150 || ahead < 42000 {
		t.Errorf("E16: %d rounds up to %d", begun, ahead)
	}
}
