package engine_test

import (
	"testing"

	"assent/api"
)

// next lets the present round be over; these are to be done beside the wait.
func (w *world) next(more ...api.Do) {
	w.t.Helper()
	round := w.e.View().Round
	want := append([]api.Do{doWait(api.StepPropose, round+1, 3*uint64(round+2))}, more...)
	w.take("E4: the next round", over(api.StepPrecommit, round), want...)
}

// in is for 9, who looks on, in a round.
func in(t *testing.T, round int) *world {
	t.Helper()
	w := begun(t, 9)
	for range round {
		w.next()
	}
	return w
}

// TestDecide: R1 in all rounds of the window, and in no others.
func TestDecide(t *testing.T) {
	for _, ahead := range []int{-4, -3, -1, 0, 1, 3} {
		w := in(t, 5)
		round := 5 + ahead
		w.all("E4", proposed(5, -1, x))
		w.all("R1", precommitted(round, idOf(x), 1))
		switch ahead {
		case -4:
			w.all("R1: behind the window", precommitted(round, idOf(x), 2), precommitted(round, idOf(x), 3), precommitted(round, idOf(x), 4))
			w.undecided("R1")
			continue
		case 1, 3: // two of four are ahead
			w.take("R2", precommitted(round, idOf(x), 2), doWait(api.StepPropose, round, 3*uint64(round+1)))
		default:
			w.all("R1", precommitted(round, idOf(x), 2))
		}
		w.undecided("E9")
		w.take("R1", precommitted(round, idOf(x), 4), doDecide(x, cert(round, x, 1, 2, 4)))
		w.decided("E9", x, cert(round, x, 1, 2, 4))
	}
}

// TestDecideAheadOfSkip: with one vote the round ahead has a quorum, by which it could be skipped to as well.
func TestDecideAheadOfSkip(t *testing.T) {
	w := worldOf(t, councilOf(7, 1, 1, 1), ticks, 9)
	w.take("E5", start(), doWait(api.StepPropose, 0, 3))
	w.all("E4", proposedBy(1, 0, -1, x))
	w.take("R1", precommitted(3, idOf(x), 1), doDecide(x, cert(3, x, 1)))
	w.at("R1", 0, api.StepDone)

	// Beyond the window nothing counts, till it is skipped to.
	w = worldOf(t, councilOf(7, 1, 1, 1), ticks, 9)
	w.take("E5", start(), doWait(api.StepPropose, 0, 3))
	w.all("E4", proposedBy(1, 0, -1, x))
	w.take("R2", precommitted(4, idOf(x), 1), doWait(api.StepPropose, 4, 15), doWait(api.StepPrecommit, 4, 20))
	w.undecided("R1: x went with the skip")
	w.all("R1", bad(shown(4, x, 1)))
	w.take("R1", shown(4, x, 1), doDecide(x, cert(4, x, 1)))
}

// proposedBy is a proposal of that member, whoever's turn it is by four alike.
func proposedBy(from api.Addr, round, validRound int, b api.Block) api.Input {
	return changed(proposed(round, validRound, b), func(in *api.Input) { in.Proposal.From = from })
}

// TestDecideLeast: of several rounds the least one counts in which a quorum is for a block that is known.
func TestDecideLeast(t *testing.T) {
	w := in(t, 3)
	for round := 3; round >= 1; round-- { // the later rounds first
		for from := api.Addr(1); from <= 3; from++ {
			if dos, e := w.e.Take(precommitted(round, idOf(x), from)); e != api.OK || round < 3 && len(dos) > 0 {
				t.Fatalf("R1: %v, error %d", dos, e)
			}
		}
	}
	w.undecided("R1: no block")
	w.all("R1: not a good one", bad(proposed(3, -1, x)))
	w.take("R1", proposed(4, -1, x), doDecide(x, cert(1, x, 1, 2, 3)))

	// A quorum for a block that is not known stands in nobody's way.
	w = in(t, 1)
	for from := api.Addr(1); from <= 3; from++ {
		w.all("R1", precommitted(0, idOf(y), from))
	}
	w.all("R1", proposed(1, -1, x), precommitted(1, idOf(x), 1), precommitted(1, idOf(x), 2))
	w.take("R1", precommitted(1, idOf(x), 3), doDecide(x, cert(1, x, 1, 2, 3)))

	// Nor does one for none.
	w = in(t, 1)
	for from := api.Addr(1); from <= 3; from++ {
		w.all("R1", precommitted(0, none, from))
	}
	w.all("R1", proposed(1, -1, x), precommitted(1, idOf(x), 1), precommitted(1, idOf(x), 2))
	w.take("R1", precommitted(1, idOf(x), 3), doDecide(x, cert(1, x, 1, 2, 3)))
}

// TestDecideKnown: the block may come behind the precommits, in each of the ways in which one is kept.
func TestDecideKnown(t *testing.T) {
	waiting := func() *world {
		w := begun(t, 1)
		w.all("R1", precommitted(0, idOf(x), 2), precommitted(0, idOf(x), 3))
		w.take("R8", precommitted(0, idOf(x), 4), doWait(api.StepPrecommit, 0, 4))
		return w
	}
	w := waiting()
	w.take("R1: a proposal", proposed(0, -1, x), doDecide(x, cert(0, x, 2, 3, 4)))
	w = waiting()
	w.take("R1: a proposal to come", proposed(3, -1, x), doDecide(x, cert(0, x, 2, 3, 4)))
	w = waiting()
	w.all("E4: too far", proposed(4, -1, x))
	w.take("R1: valid", shown(0, x, 1, 2, 3), doDecide(x, cert(0, x, 2, 3, 4)))
	w = waiting()
	w.take("R1: built", built(0, x), doPropose(0, -1, x), doDecide(x, cert(0, x, 2, 3, 4)))
	w = waiting()
	w.take("R3: not a good one", bad(proposed(0, -1, x)), w.prevote(0, none))
	w.take("R1: not a good one", bad(shown(0, x, 1, 2, 3)), doWait(api.StepPrevote, 0, 2))
	w.all("R1: not a good one", bad(proposed(1, -1, x)))
	w.undecided("R1")
}

// TestDecideMarks: the marks have the times and seals of the votes that came first.
func TestDecideMarks(t *testing.T) {
	w := in(t, 0)
	w.all("E4", proposed(0, -1, x))
	want := cert(0, x, 1, 2, 3)
	for from := api.Addr(1); from <= 3; from++ {
		v := vote(api.Precommit, 0, idOf(x), from)
		v.Time, v.Seal = uint64(from)*100, api.Seal{byte(from)}
		want.Marks[from-1].Time, want.Marks[from-1].Seal = v.Time, v.Seal
		if from == 3 {
			w.take("R1", voted(v), doDecide(x, want))
			break
		}
		w.all("E4", voted(v))
		v.Time, v.Seal = 1, api.Seal{}
		w.all("E4", voted(v))
	}
	w.decided("E9", x, want)
}

// TestDecideAtOnce: what has come ahead of the beginning decides with it.
func TestDecideAtOnce(t *testing.T) {
	w := newWorld(t, 1)
	w.all("E4: StepNew", proposed(0, -1, x), prevoted(0, idOf(x), 2), prevoted(0, idOf(x), 3), prevoted(0, idOf(x), 4))
	w.all("E4: StepNew", precommitted(0, idOf(x), 2), precommitted(0, idOf(x), 3), precommitted(0, idOf(x), 4))
	w.at("E4: StepNew", 0, api.StepNew)
	w.chosen("E4: StepNew", -1, none, -1, none)
	w.holds("E8: StepNew")
	w.undecided("E4: StepNew")
	w.take("R1", start(), doWait(api.StepPropose, 0, 3), doBuild(0), doDecide(x, cert(0, x, 2, 3, 4)))
}

// TestWholeRoundAtOnce: without a certificate the other rules follow one another.
func TestWholeRoundAtOnce(t *testing.T) {
	w := newWorld(t, 2)
	w.all("E4: StepNew", proposed(0, -1, x), prevoted(0, idOf(x), 2), prevoted(0, idOf(x), 3), prevoted(0, idOf(x), 4))
	w.all("E4: StepNew", precommitted(0, none, 2), precommitted(0, idOf(x), 3), precommitted(0, idOf(x), 4))
	w.take("E4", later(9, start()), doWait(api.StepPropose, 0, 3), w.prevote(0, idOf(x)), doWait(api.StepPrevote, 0, 2),
		w.precommit(0, idOf(x), 9), doWait(api.StepPrecommit, 0, 4))
	w.at("R6", 0, api.StepPrecommit)
	w.chosen("R6", 0, idOf(x), 0, idOf(x))
}

// TestSkip: R2 by more than a third, to the greatest such round.
func TestSkip(t *testing.T) {
	w := begun(t, 3)
	w.all("R2: one of four", prevoted(5, none, 1), precommitted(8, none, 1), prevoted(0, none, 2), prevoted(0, none, 4))
	w.take("R2", precommitted(6, idOf(x), 2), doWait(api.StepPropose, 6, 21), doBuild(6)) // the turn of 3
	w.at("R2", 6, api.StepPropose)
	w.all("R2: the present round", prevoted(6, none, 4))
	w.all("R2: the same two", prevoted(6, none, 1), prevoted(6, none, 2))
	w.take("R2", prevoted(7, none, 4), doWait(api.StepPropose, 7, 24)) // 1 is at 8 already
	w.take("R2", prevoted(api.MaxRound, none, 4), doWait(api.StepPropose, 8, 27))
	w.take("R2", prevoted(api.MaxRound, none, 2), doWait(api.StepPropose, api.MaxRound, 3*65536))
	w.at("R2", api.MaxRound, api.StepPropose)
}

// TestSkipDoes: what comes in with a skip counts in the same Take.
func TestSkipDoes(t *testing.T) {
	w := begun(t, 9)
	w.all("R2", prevoted(4, none, 1), precommitted(4, none, 1))
	w.take("R2", prevoted(4, none, 2), doWait(api.StepPropose, 4, 15))
	w.at("R2", 4, api.StepPropose)
	w.all("E4", prevoted(4, none, 3)) // StepPropose: R5 and R7 wait
	w.take("R5", over(api.StepPropose, 4), doWait(api.StepPrevote, 4, 10))
	w.at("R7", 4, api.StepPrecommit)

	w = worldOf(t, councilOf(1, 1, 1), ticks, 9)
	w.take("E5", start(), doWait(api.StepPropose, 0, 3))
	w.all("R2", prevoted(5, none, 1), precommitted(4, none, 1))
	w.take("R2", precommitted(5, none, 2), doWait(api.StepPropose, 5, 18))
	w.all("R8", precommitted(5, none, 1)) // of 1 the precommit of the round 4 was held
}

// TestThird: a third alone skips nothing.
func TestThird(t *testing.T) {
	w := worldOf(t, councilOf(2, 2, 2), ticks, 9)
	w.take("E5", start(), doWait(api.StepPropose, 0, 3))
	w.all("R2", prevoted(2, none, 1), precommitted(3, none, 1))
	w.at("R2", 0, api.StepPropose)
	w.take("R2", prevoted(2, none, 2), doWait(api.StepPropose, 2, 9))
}

// TestNewProposal: R3.
func TestNewProposal(t *testing.T) {
	w := begun(t, 2)
	w.take("R3", proposed(0, -1, x), w.prevote(0, idOf(x)))
	w.at("R3", 0, api.StepPrevote)
	w = begun(t, 2)
	w.take("R3: not a good one", bad(proposed(0, -1, x)), w.prevote(0, none))
	w.at("R3", 0, api.StepPrevote)

	// The first one of a round counts, whichever came later.
	w = newWorld(t, 2)
	w.all("E4", bad(proposed(0, -1, x)), proposed(0, -1, y), proposed(0, -1, x))
	w.take("R3", start(), doWait(api.StepPropose, 0, 3), w.prevote(0, none))
	w.all("R3: once", proposed(0, -1, x))

	// One that comes too late is no more voted for.
	w = begun(t, 2)
	w.take("E4", over(api.StepPropose, 0), w.prevote(0, none))
	w.all("R3: too late", proposed(0, -1, x))
	w.at("R3: too late", 0, api.StepPrevote)

	// Locked: only on the same block.
	w = lockedOn(t)
	w.take("R3: the same block", proposed(1, -1, x), w.prevote(1, idOf(x)))
	w = lockedOn(t)
	w.take("R3: the same block, not good", bad(proposed(1, -1, x)), w.prevote(1, none))
	w = lockedOn(t)
	w.take("R3: another block", proposed(1, -1, y), w.prevote(1, none))
	w.chosen("R3", 0, idOf(x), 0, idOf(x))

	// A proposal that waits for its round.
	w = begun(t, 4)
	w.all("E4", proposed(2, -1, x), bad(proposed(1, -1, y)))
	w.next(w.prevote(1, none))
	w.next(w.prevote(2, idOf(x)))
}

// locked at round 2 on x, for 3, who is in round 3.
func lockedLater(t *testing.T) *world {
	t.Helper()
	w := begun(t, 3)
	w.next()
	w.next(doBuild(2))
	w.take("E4", proposed(2, -1, x), w.prevote(2, idOf(x)))
	w.all("R5", prevoted(2, idOf(x), 1), prevoted(2, idOf(x), 2))
	w.take("R6", prevoted(2, idOf(x), 3), doWait(api.StepPrevote, 2, 6), w.precommit(2, idOf(x), 6))
	w.next()
	w.next()
	w.chosen("R6", 2, idOf(x), 2, idOf(x))
	return w
}

// TestOldProposal: R4, by the lock's round and the valid round.
func TestOldProposal(t *testing.T) {
	for validRound, want := range map[int]api.Hash{0: none, 1: none, 2: idOf(y), 3: idOf(y)} {
		w := lockedLater(t)
		var twice []api.Do
		if validRound == 2 { // in which the lock has had its own polka
			twice = doEvidences(2, x, y, 1, 2, 3)
		}
		w.take("R4: another block", proposed(4, validRound, y), append(twice, w.prevote(4, want))...)
		w.at("R4", 4, api.StepPrevote)
		w.chosen("R4", 2, idOf(x), 2, idOf(x))
		w = lockedLater(t)
		w.take("R4: not a good one", bad(proposed(4, validRound, y)), append(twice, w.prevote(4, none))...)
		w = lockedLater(t)
		w.take("R4: the same block, not a good one", bad(proposed(4, validRound, x)), w.prevote(4, none))
		w = lockedLater(t)
		w.take("R4: the same block", proposed(4, validRound, x), w.prevote(4, idOf(x)))
	}
	for _, validRound := range []int{0, 1} {
		w := begun(t, 4)
		w.next()
		w.next()
		w.take("R4: nothing is locked", proposed(2, validRound, y), w.prevote(2, idOf(y)))
		w = begun(t, 4)
		w.next()
		w.next()
		w.take("R4: not a good one", bad(proposed(2, validRound, y)), w.prevote(2, none))
	}
	w := begun(t, 4)
	w.next()
	w.take("E4", over(api.StepPropose, 1), w.prevote(1, none))
	w.all("R4: too late", proposed(1, 0, x))
}

// TestPrevotes: R5 once a round, in its step, by a quorum of whatever prevotes.
func TestPrevotes(t *testing.T) {
	w := begun(t, 2)
	w.all("R5: StepPropose", prevoted(0, idOf(x), 1), prevoted(0, idOf(y), 3), prevoted(0, none, 4))
	w.take("R5", over(api.StepPropose, 0), w.prevote(0, none), doWait(api.StepPrevote, 0, 2))
	w.all("R5: once", prevoted(0, none, 2))
	w.at("R5", 0, api.StepPrevote)
	w.all("R5: of another round", prevoted(1, none, 1))
	w.next(doBuild(1))
	w.take("E4", over(api.StepPropose, 1), w.prevote(1, none))
	w.all("R5", prevoted(1, none, 2))
	w.take("R5: a round has its own", prevoted(1, idOf(x), 4), doWait(api.StepPrevote, 1, 4))

	w = begun(t, 2)
	w.take("E4", over(api.StepPropose, 0), w.prevote(0, none))
	w.take("E4", over(api.StepPrevote, 0), w.precommit(0, none, 0))
	w.all("R5: StepPrecommit", prevoted(0, idOf(x), 1), prevoted(0, idOf(y), 3), prevoted(0, none, 4))

	// Half of the power above one, but no quorum.
	w = worldOf(t, councilOf(2, 2, 2), ticks, 9)
	w.take("E5", start(), doWait(api.StepPropose, 0, 3))
	w.all("R5: two thirds", over(api.StepPropose, 0), prevoted(0, none, 1), prevoted(0, none, 2))
	w.at("R7: two thirds", 0, api.StepPrevote)
	w.take("R5", prevoted(0, none, 3), doWait(api.StepPrevote, 0, 2))
	w.at("R7", 0, api.StepPrecommit)
}

// TestLock: R6 in the step of prevotes.
func TestLock(t *testing.T) {
	w := begun(t, 2)
	w.all("R6: StepPropose", prevoted(0, idOf(x), 1), prevoted(0, idOf(x), 3), prevoted(0, idOf(x), 4), proposed(1, -1, x))
	w.chosen("R6: StepPropose", -1, none, -1, none)
	w.take("R6", over(api.StepPropose, 0), w.prevote(0, none), doWait(api.StepPrevote, 0, 2), w.precommit(0, idOf(x), 6))
	w.chosen("R6", 0, idOf(x), 0, idOf(x))
	w.holds("R6: its polka", append([]api.Msg{heldPolka(x, polka(0, x, 1, 3, 4)...)}, heldVotes(polka(0, x, 1, 3, 4)...)...)...)
	w.all("R6: once", prevoted(0, idOf(x), 2))
	w.holds("R6: its polka", append([]api.Msg{heldPolka(x, polka(0, x, 1, 3, 4)...)}, heldVotes(polka(0, x, 1, 2, 3, 4)...)...)...)

	// Prevotes for others are no part of the polka.
	w = begun(t, 2)
	w.take("R3", proposed(0, -1, x), w.prevote(0, idOf(x)))
	w.all("R6", prevoted(0, idOf(y), 1), prevoted(0, idOf(x), 2))
	w.take("R5", prevoted(0, idOf(x), 3), doWait(api.StepPrevote, 0, 2))
	w.chosen("R6: no quorum", -1, none, -1, none)
	w.take("R6", prevoted(0, idOf(x), 4), w.precommit(0, idOf(x), 6))
	w.holds("R6", append([]api.Msg{heldPolka(x, polka(0, x, 2, 3, 4)...)},
		heldVotes(append(polka(0, y, 1), polka(0, x, 2, 3, 4)...)...)...)...)

	// The block comes behind the polka.
	w = begun(t, 2)
	w.take("R3", bad(proposed(0, -1, x)), w.prevote(0, none))
	w.all("R6", prevoted(0, idOf(x), 1), prevoted(0, idOf(x), 3))
	w.take("R6: not known", prevoted(0, idOf(x), 4), doWait(api.StepPrevote, 0, 2))
	w.at("R6: not known", 0, api.StepPrevote)
	w.take("R6", proposed(1, -1, x), w.precommit(0, idOf(x), 6))
	w.at("R6", 0, api.StepPrecommit)

	// A later round is locked and valid afresh.
	w = lockedOn(t)
	w.take("R4", proposed(1, 0, y), append(doEvidences(0, x, y, 1, 2, 3), w.prevote(1, idOf(y)))...)
	w.all("R6", prevoted(1, idOf(y), 1), prevoted(1, idOf(y), 2))
	w.take("R6", prevoted(1, idOf(y), 4), doWait(api.StepPrevote, 1, 4), w.precommit(1, idOf(y), 7))
	w.chosen("R6", 1, idOf(y), 1, idOf(y))
}

// TestLateLock: R6 in the step of precommits: valid alone.
func TestLateLock(t *testing.T) {
	w := begun(t, 2)
	w.take("R3", proposed(0, -1, x), w.prevote(0, idOf(x)))
	w.take("E4", over(api.StepPrevote, 0), w.precommit(0, none, 0))
	w.all("R6", prevoted(0, idOf(x), 1), prevoted(0, idOf(x), 2))
	w.chosen("R6", -1, none, -1, none)
	w.all("R6: no vote", prevoted(0, idOf(x), 4))
	w.chosen("R6: valid alone", -1, none, 0, idOf(x))
	w.at("R6", 0, api.StepPrecommit)
	w.next(doPropose(1, 0, x, polka(0, x, 1, 2, 4)...))

	w = lockedOn(t)
	w.take("R4", proposed(1, 0, y), append(doEvidences(0, x, y, 1, 2, 3), w.prevote(1, idOf(y)))...)
	w.take("E4", over(api.StepPrevote, 1), w.precommit(1, none, 0))
	w.all("R6", prevoted(1, idOf(y), 1), prevoted(1, idOf(y), 2), prevoted(1, idOf(y), 4))
	w.chosen("R6: the lock stays", 0, idOf(x), 1, idOf(y))
}

// TestTimes: a precommit for a block has a time, above the block's and no less than Now; other votes have none.
func TestTimes(t *testing.T) {
	for _, c := range []struct{ block, now, want uint64 }{
		{5, 0, 6}, {5, 4, 6}, {5, 5, 6}, {5, 6, 6}, {5, 7, 7}, {0, 0, 1},
		{5, api.MaxTime, api.MaxTime}, {5, api.MaxTime - 1, api.MaxTime - 1},
		{api.MaxTime - 1, 0, api.MaxTime}, {api.MaxTime, 0, api.MaxTime}, {api.MaxTime, api.MaxTime, api.MaxTime},
	} {
		b := blockAt(1, c.block)
		w := begun(t, 2)
		w.take("R3", later(api.MaxTime, proposed(0, -1, b)), w.prevote(0, idOf(b)))
		w.all("R6", later(api.MaxTime, prevoted(0, idOf(b), 1)), later(1, prevoted(0, idOf(b), 2)))
		w.take("R6: the time", later(c.now, prevoted(0, idOf(b), 3)), doWait(api.StepPrevote, 0, 2), w.precommit(0, idOf(b), c.want))
	}
	w := begun(t, 2)
	w.take("E4", later(77, over(api.StepPropose, 0)), w.prevote(0, none))
	w.take("E4", later(77, over(api.StepPrevote, 0)), w.precommit(0, none, 0))
}

// TestForNone: R7.
func TestForNone(t *testing.T) {
	w := begun(t, 2)
	w.all("R7: StepPropose", prevoted(0, none, 1), prevoted(0, none, 3), prevoted(0, none, 4))
	w.at("R7: StepPropose", 0, api.StepPropose)
	w.take("R7", proposed(0, -1, x), w.prevote(0, idOf(x)), doWait(api.StepPrevote, 0, 2), w.precommit(0, none, 0))
	w.at("R7", 0, api.StepPrecommit)
	w.chosen("R7", -1, none, -1, none)
	w.all("R7: once", prevoted(0, none, 2))

	w = lockedOn(t)
	w.take("R3", proposed(1, -1, y), w.prevote(1, none))
	w.all("R7", prevoted(1, none, 1), prevoted(1, none, 3))
	w.take("R7", prevoted(1, none, 4), doWait(api.StepPrevote, 1, 4), w.precommit(1, none, 0))
	w.chosen("R7: the lock stays", 0, idOf(x), 0, idOf(x))

	w = begun(t, 2)
	w.take("E4", over(api.StepPropose, 0), w.prevote(0, none))
	w.all("R7: not by any quorum", prevoted(0, idOf(x), 1), prevoted(0, none, 3))
	w.take("R5", prevoted(0, none, 4), doWait(api.StepPrevote, 0, 2))
	w.at("R7: not by any quorum", 0, api.StepPrevote)
}

// TestPrecommits: R8 once a round, in every step, by a quorum of whatever precommits.
func TestPrecommits(t *testing.T) {
	precommits := []api.Input{precommitted(0, none, 1), precommitted(0, idOf(x), 3)}
	last := precommitted(0, idOf(y), 4)
	w := begun(t, 2)
	w.all("R8", precommits...)
	w.take("R8: StepPropose", last, doWait(api.StepPrecommit, 0, 4))
	w.all("R8: once", precommitted(0, none, 2))
	w.at("R8", 0, api.StepPropose)
	w.take("E4", over(api.StepPropose, 0), w.prevote(0, none))
	w.take("E4", over(api.StepPrevote, 0), w.precommit(0, none, 0))

	w = begun(t, 2)
	w.take("E4", over(api.StepPropose, 0), w.prevote(0, none))
	w.all("R8", precommits...)
	w.take("R8: StepPrevote", last, doWait(api.StepPrecommit, 0, 4))

	w = begun(t, 2)
	w.take("E4", over(api.StepPropose, 0), w.prevote(0, none))
	w.take("E4", over(api.StepPrevote, 0), w.precommit(0, none, 0))
	w.all("R8", precommits...)
	w.take("R8: StepPrecommit", last, doWait(api.StepPrecommit, 0, 4))
	w.next(doBuild(1))
	w.all("R8: of another round", precommitted(0, none, 2))
	w.all("R8", precommitted(1, none, 1), precommitted(1, none, 2))
	w.take("R8: a round has its own", precommitted(1, none, 3), doWait(api.StepPrecommit, 1, 8))

	w = worldOf(t, councilOf(2, 2, 2), ticks, 9)
	w.take("E5", start(), doWait(api.StepPropose, 0, 3))
	w.all("R8: two thirds", precommitted(0, none, 1), precommitted(0, none, 2))
	w.take("R8", precommitted(0, none, 3), doWait(api.StepPrecommit, 0, 4))
}
