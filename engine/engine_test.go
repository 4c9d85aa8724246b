package engine_test

import (
	"fmt"
	"reflect"
	"slices"
	"testing"

	"assent/api"
	"assent/council"
	"assent/engine"
	"assent/wire"
)

var ticks = api.Params{Propose: 3, Votes: 2}

// none is the id of no block.
var none api.Hash

// x, y and z are blocks of the height 1, with the times 5, 6 and 7.
var x, y, z = blockAt(1, 5), blockAt(1, 6), blockAt(1, 7)

func blockAt(height, time uint64) api.Block {
	return api.Block{
		Header:   api.Header{Chain: "c", Height: height, Time: time, Proposer: 1},
		Txs:      []api.Tx{{Kind: api.TxPay, From: 1, To: 2, Amount: time}},
		Evidence: []api.Evidence{{A: api.Vote{From: 3, Time: time}}},
		Last:     api.Cert{Height: 9, Marks: []api.Mark{{Index: 1, Time: time}}},
	}
}

// with is the block with another amount: its header, and so its id, is the same.
func with(b api.Block, amount uint64) api.Block {
	b.Txs = []api.Tx{{Kind: api.TxPay, From: 1, To: 2, Amount: amount}}
	return b
}

func idOf(b api.Block) api.Hash {
	id, e := wire.BlockId(b.Header)
	if e != api.OK {
		panic("a block without an id")
	}
	return id
}

// councilOf is one of the members 1, 2, .. with these powers.
func councilOf(powers ...uint64) api.Council {
	var list []api.Member
	for k, p := range powers {
		list = append(list, api.Member{Addr: api.Addr(k + 1), Power: p})
	}
	c, e := council.New(list)
	if e != api.OK {
		panic("no council")
	}
	return c
}

// world is an engine for one member.
type world struct {
	t    *testing.T
	e    *engine.Engine
	self api.Addr
}

// newWorld is of the height 1 and four members with the power 1 each, whose turns come round by rising address.
func newWorld(t *testing.T, self api.Addr) *world {
	t.Helper()
	return worldOf(t, councilOf(1, 1, 1, 1), ticks, self)
}

func worldOf(t *testing.T, c api.Council, p api.Params, self api.Addr) *world {
	t.Helper()
	e, refusal := engine.New(1, c, p, self)
	if refusal != api.OK || e == nil {
		t.Fatalf("E1: New: error %d", refusal)
	}
	return &world{t: t, e: e, self: self}
}

// worldAt is of another height.
func worldAt(t *testing.T, height uint64, self api.Addr) *world {
	t.Helper()
	e, refusal := engine.New(height, councilOf(1, 1, 1, 1), ticks, self)
	if refusal != api.OK {
		t.Fatalf("E1: New: error %d", refusal)
	}
	return &world{t: t, e: e, self: self}
}

// begun is one whose round 0 has begun.
func begun(t *testing.T, self api.Addr) *world {
	t.Helper()
	w := newWorld(t, self)
	if dos, e := w.e.Take(api.Input{Kind: api.InStart}); e != api.OK || len(dos) == 0 {
		t.Fatalf("E4: InStart: %v, error %d", dos, e)
	}
	return w
}

// take hands an input in: these are to be done.
func (w *world) take(what string, in api.Input, want ...api.Do) {
	w.t.Helper()
	dos, e := w.e.Take(in)
	if e != api.OK || !slices.EqualFunc(dos, want, func(p, q api.Do) bool { return reflect.DeepEqual(p, q) }) {
		w.t.Fatalf("%s: error %d, dos%s\nwant%s", what, e, tell(dos), tell(want))
	}
	if len(dos) == 0 && dos != nil {
		w.t.Errorf("%s: a list that is not nil", what)
	}
}

// tell is what is to be done in few words.
func tell(dos []api.Do) (text string) {
	for _, d := range dos {
		text += fmt.Sprintf("\n  kind %d round %d step %d delay %d", d.Kind, d.Round, d.Step, d.Delay)
		switch d.Kind {
		case api.DoVote:
			text += ": " + tellVote(d.Vote)
		case api.DoPropose:
			text += fmt.Sprintf(": round %d valid round %d id %x from %d, %d votes", d.Proposal.Round, d.Proposal.ValidRound, d.Proposal.Id[:2], d.Proposal.From, len(d.Votes))
		case api.DoDecide:
			text += fmt.Sprintf(": round %d id %x marks %v", d.Cert.Round, d.Cert.Id[:2], d.Cert.Marks)
		case api.DoEvidence:
			text += ": " + tellVote(d.Evidence.A) + ", " + tellVote(d.Evidence.B)
		}
	}
	return text
}

func tellVote(v api.Vote) string {
	return fmt.Sprintf("%d %d %x of %d at %d", v.Kind, v.Round, v.Id[:2], v.From, v.Time)
}

// all hands inputs in of which nothing is to be done.
func (w *world) all(what string, list ...api.Input) {
	w.t.Helper()
	for _, in := range list {
		w.take(what, in)
	}
}

// refused: the input is, and nothing has changed.
func (w *world) refused(what string, in api.Input, want api.Errno) {
	w.t.Helper()
	view, held := w.e.View(), w.e.Held()
	dos, e := w.e.Take(in)
	if e != want || dos != nil {
		w.t.Errorf("%s: %v, error %d, want %d", what, dos, e, want)
	}
	if w.e.View() != view || !reflect.DeepEqual(w.e.Held(), held) {
		w.t.Errorf("%s: something has changed", what)
	}
}

// at: that is what View tells beside the height.
func (w *world) at(what string, round, step int) {
	w.t.Helper()
	if v := w.e.View(); v.Height != 1 || v.Round != round || v.Step != step {
		w.t.Errorf("%s: %+v, want round %d, step %d", what, v, round, step)
	}
}

// chosen: that is locked and valid; of the round -1 the id is none.
func (w *world) chosen(what string, locked int, lockId api.Hash, valid int, validId api.Hash) {
	w.t.Helper()
	if v := w.e.View(); v.Locked != locked || v.LockId != lockId || v.Valid != valid || v.ValidId != validId {
		w.t.Errorf("%s: %+v", what, v)
	}
}

func (w *world) holds(what string, want ...api.Msg) {
	w.t.Helper()
	held := w.e.Held()
	if !slices.EqualFunc(held, want, func(p, q api.Msg) bool { return reflect.DeepEqual(p, q) }) {
		w.t.Errorf("%s: held\n%+v, want\n%+v", what, held, want)
	}
}

func (w *world) undecided(what string) {
	w.t.Helper()
	b, c, e := w.e.Decided()
	if e != api.ErrNone || !reflect.DeepEqual(b, api.Block{}) || !reflect.DeepEqual(c, api.Cert{}) {
		w.t.Errorf("%s: decided: %v, %v, error %d", what, b, c, e)
	}
}

func (w *world) decided(what string, b api.Block, c api.Cert) {
	w.t.Helper()
	p, q, e := w.e.Decided()
	if e != api.OK || !reflect.DeepEqual(p, b) || !reflect.DeepEqual(q, c) {
		w.t.Errorf("%s: decided: %v, %v, error %d", what, p, q, e)
	}
}

// What is handed in.

func start() api.Input { return api.Input{Kind: api.InStart} }

func vote(kind, round int, id api.Hash, from api.Addr) api.Vote {
	return api.Vote{Kind: kind, Height: 1, Round: round, Id: id, From: from}
}

func voted(v api.Vote) api.Input { return api.Input{Kind: api.InVote, Votes: []api.Vote{v}} }

func prevoted(round int, id api.Hash, from api.Addr) api.Input {
	return voted(vote(api.Prevote, round, id, from))
}

func precommitted(round int, id api.Hash, from api.Addr) api.Input {
	return voted(vote(api.Precommit, round, id, from))
}

// polka is the prevotes of these members.
func polka(round int, b api.Block, from ...api.Addr) (votes []api.Vote) {
	for _, a := range from {
		votes = append(votes, vote(api.Prevote, round, idOf(b), a))
	}
	return votes
}

// turn is who proposes in a round: of four members with the same power.
func turn(round int) api.Addr { return api.Addr(round%4 + 1) }

func proposal(round, validRound int, b api.Block) api.Proposal {
	return api.Proposal{Height: 1, Round: round, ValidRound: validRound, Id: idOf(b), From: turn(round)}
}

// proposed is a good proposal; the votes are those of the members 1, 2, 3 in the valid round.
func proposed(round, validRound int, b api.Block) api.Input {
	in := api.Input{Kind: api.InProposal, Proposal: proposal(round, validRound, b), Block: b, Good: true}
	if validRound >= 0 {
		in.Votes = polka(validRound, b, 1, 2, 3)
	}
	return in
}

func bad(in api.Input) api.Input {
	in.Good = false
	return in
}

func shown(round int, b api.Block, from ...api.Addr) api.Input {
	return api.Input{Kind: api.InPolka, Block: b, Votes: polka(round, b, from...), Good: true}
}

func over(step, round int) api.Input {
	return api.Input{Kind: api.InTimeout, Step: step, Round: round}
}

func built(round int, b api.Block) api.Input {
	return api.Input{Kind: api.InBuilt, Round: round, Block: b}
}

func later(now uint64, in api.Input) api.Input {
	in.Now = now
	return in
}

// What is to be done.

func doWait(step, round int, delay uint64) api.Do {
	return api.Do{Kind: api.DoTimeout, Step: step, Round: round, Delay: delay}
}

func doBuild(round int) api.Do { return api.Do{Kind: api.DoBuild, Round: round} }

func doVote(kind, round int, id api.Hash, time uint64, from api.Addr) api.Do {
	v := vote(kind, round, id, from)
	v.Time = time
	return api.Do{Kind: api.DoVote, Vote: v}
}

func (w *world) prevote(round int, id api.Hash) api.Do {
	return doVote(api.Prevote, round, id, 0, w.self)
}

func (w *world) precommit(round int, id api.Hash, time uint64) api.Do {
	return doVote(api.Precommit, round, id, time, w.self)
}

func doPropose(round, validRound int, b api.Block, votes ...api.Vote) api.Do {
	return api.Do{Kind: api.DoPropose, Proposal: proposal(round, validRound, b), Block: b, Votes: votes}
}

// cert is of these members, without times and seals.
func cert(round int, b api.Block, from ...api.Addr) api.Cert {
	c := api.Cert{Height: 1, Round: round, Id: idOf(b)}
	for _, a := range from {
		c.Marks = append(c.Marks, api.Mark{Index: int(a) - 1})
	}
	return c
}

func doDecide(b api.Block, c api.Cert) api.Do {
	return api.Do{Kind: api.DoDecide, Block: b, Cert: c}
}

func doEvidence(v, u api.Vote) api.Do {
	if slices.Compare(v.Id[:], u.Id[:]) > 0 {
		v, u = u, v
	}
	return api.Do{Kind: api.DoEvidence, Evidence: api.Evidence{A: v, B: u}}
}

// doEvidences: in that round these members have prevoted for both blocks.
func doEvidences(round int, b, d api.Block, from ...api.Addr) (dos []api.Do) {
	for _, a := range from {
		dos = append(dos, doEvidence(vote(api.Prevote, round, idOf(b), a), vote(api.Prevote, round, idOf(d), a)))
	}
	return dos
}

// What is held.

func heldVotes(votes ...api.Vote) (list []api.Msg) {
	for _, v := range votes {
		list = append(list, api.Msg{Kind: api.MsgVote, Votes: []api.Vote{v}})
	}
	return list
}

func heldProposal(round, validRound int, b api.Block, votes ...api.Vote) api.Msg {
	return api.Msg{Kind: api.MsgProposal, Proposal: proposal(round, validRound, b), Block: b, Votes: votes}
}

func heldPolka(b api.Block, votes ...api.Vote) api.Msg {
	return api.Msg{Kind: api.MsgPolka, Block: b, Votes: votes}
}

// TestExampleDecides is the chapter's first and second.
func TestExampleDecides(t *testing.T) {
	w := newWorld(t, 1)
	w.at("E7", 0, api.StepNew)
	w.chosen("E7", -1, none, -1, none)
	w.take("E5", later(10, start()), doWait(api.StepPropose, 0, 3), doBuild(0))
	w.take("E4", built(0, x), doPropose(0, -1, x))
	w.refused("E2: built again", built(0, x), api.ErrInput)
	w.take("R3", proposed(0, -1, x), w.prevote(0, idOf(x)))
	w.all("R5", prevoted(0, idOf(x), 1), prevoted(0, idOf(x), 2))
	w.take("R5, R6", later(12, prevoted(0, idOf(x), 3)), doWait(api.StepPrevote, 0, 2), w.precommit(0, idOf(x), 12))
	w.chosen("R6", 0, idOf(x), 0, idOf(x))
	w.at("R6", 0, api.StepPrecommit)
	w.undecided("E9")

	w.all("R8", precommitted(0, idOf(x), 1), precommitted(0, idOf(x), 3))
	w.take("R1", precommitted(0, idOf(x), 4), doDecide(x, cert(0, x, 1, 3, 4)))
	w.at("R1", 0, api.StepDone)
	w.all("E3", precommitted(0, idOf(x), 2))
	w.decided("E9", x, cert(0, x, 1, 3, 4))
	w.holds("E8")
}

// TestExampleWaits is the third and the fourth.
func TestExampleWaits(t *testing.T) {
	w := newWorld(t, 2)
	w.refused("E2: ahead of the beginning", over(api.StepPropose, 0), api.ErrState)
	w.take("E5", start(), doWait(api.StepPropose, 0, 3))
	w.take("E4", over(api.StepPropose, 0), w.prevote(0, none))
	w.all("R5", prevoted(0, none, 2), prevoted(0, none, 3))
	w.take("R5, R7", prevoted(0, none, 4), doWait(api.StepPrevote, 0, 2), w.precommit(0, none, 0))
	w.all("R8", precommitted(0, none, 2), precommitted(0, none, 3))
	w.take("R8", precommitted(0, none, 4), doWait(api.StepPrecommit, 0, 4))
	w.take("E4", over(api.StepPrecommit, 0), doWait(api.StepPropose, 1, 6), doBuild(1))
	w.at("E5", 1, api.StepPropose)

	w.all("R2", prevoted(7, none, 1))
	w.take("R2", precommitted(9, none, 4), doWait(api.StepPropose, 7, 24))
	w.at("R2", 7, api.StepPropose)
}

// lockedOn is for 3, who is locked on x in round 0 and has come to round 1.
func lockedOn(t *testing.T) *world {
	t.Helper()
	w := begun(t, 3)
	w.take("R3", proposed(0, -1, x), w.prevote(0, idOf(x)))
	w.all("R5", prevoted(0, idOf(x), 1), prevoted(0, idOf(x), 2))
	w.take("R6", prevoted(0, idOf(x), 3), doWait(api.StepPrevote, 0, 2), w.precommit(0, idOf(x), 6))
	w.take("E4", over(api.StepPrecommit, 0), doWait(api.StepPropose, 1, 6))
	w.chosen("R6", 0, idOf(x), 0, idOf(x))
	return w
}

// TestExampleLock is the fifth.
func TestExampleLock(t *testing.T) {
	w := lockedOn(t)
	w.take("R3: locked on another block", proposed(1, -1, y), w.prevote(1, none))
	w.at("R3", 1, api.StepPrevote)
}

// TestExamplePolka is the sixth.
func TestExamplePolka(t *testing.T) {
	w := begun(t, 3)
	w.take("E4, R2", shown(1, y, 1, 2, 4), doWait(api.StepPropose, 1, 6))
	w.at("R2", 1, api.StepPropose)
	w.chosen("E4", -1, none, 1, idOf(y))
	w.refused("E2: too few", shown(1, y, 1, 2), api.ErrInput)
}

// TestExampleNew is the seventh.
func TestExampleNew(t *testing.T) {
	four := councilOf(1, 1, 1, 1)
	wantNoEngine(t, "height 0", 0, four, ticks)
	wantNoEngine(t, "Propose 0", 1, four, api.Params{Votes: 2})
	wantNoEngine(t, "no members", 1, api.Council{}, ticks)
	w := newWorld(t, 9)
	w.take("E1", start(), doWait(api.StepPropose, 0, 3))
	w.all("E1: no vote", proposed(0, -1, x), prevoted(0, idOf(x), 1), prevoted(0, idOf(x), 2))
}

func wantNoEngine(t *testing.T, what string, height uint64, c api.Council, p api.Params) {
	t.Helper()
	for _, self := range []api.Addr{0, 1, 9} {
		if e, refusal := engine.New(height, c, p, self); e != nil || refusal != api.ErrArg {
			t.Errorf("E1: %s: error %d", what, refusal)
		}
	}
}

// TestNew: what may not be, and the edges of what may.
func TestNew(t *testing.T) {
	four := councilOf(1, 1, 1, 1)
	for _, h := range []uint64{0, api.MaxHeight + 1, 1 << 63, 1<<64 - 1} {
		wantNoEngine(t, "a height that is none", h, four, ticks)
	}
	for _, n := range []uint64{0, api.MaxTicks + 1, 1<<64 - 1} {
		wantNoEngine(t, "Propose", 1, four, api.Params{Propose: n, Votes: 2})
		wantNoEngine(t, "Votes", 1, four, api.Params{Propose: 3, Votes: n})
	}
	for what, list := range map[string][]api.Member{
		"nobody":     {{Addr: 0, Power: 1}},
		"twice":      {{Addr: 2, Power: 1}, {Addr: 2, Power: 1}},
		"not rising": {{Addr: 2, Power: 1}, {Addr: 1, Power: 1}},
		"no power":   {{Addr: 1}},
		"too much":   {{Addr: 1, Power: api.MaxSupply}, {Addr: 2, Power: 1}},
		"priority":   {{Addr: 1, Power: 1, Priority: 8}},
		"too many":   make([]api.Member, api.MaxSeats+1),
	} {
		wantNoEngine(t, what, 1, api.Council{Members: list}, ticks)
	}
	for _, h := range []uint64{1, 2, api.MaxHeight} {
		for _, p := range []api.Params{{Propose: 1, Votes: 1}, {Propose: api.MaxTicks, Votes: api.MaxTicks, Seats: -5, MaxTxs: 1 << 40, Slash: 1 << 60}} {
			for _, self := range []api.Addr{0, 1, 4, 5, 1<<64 - 1} {
				e, refusal := engine.New(h, four, p, self)
				if refusal != api.OK || e.View() != (api.View{Height: h, Locked: -1, Valid: -1}) {
					t.Errorf("E1: height %d: %+v, error %d", h, e.View(), refusal)
				}
				if e.Held() != nil {
					t.Errorf("E8: something is held at first")
				}
			}
		}
	}
}

// TestOnlooker: who is no member comes to all that a member comes to, and is asked for no building, proposing and voting.
func TestOnlooker(t *testing.T) {
	for _, self := range []api.Addr{0, 9} {
		w := newWorld(t, self)
		w.take("E1", start(), doWait(api.StepPropose, 0, 3))
		w.all("E1: R3", proposed(0, -1, x))
		w.at("E1: R3", 0, api.StepPrevote)
		w.all("E1: R5", prevoted(0, idOf(x), 1), prevoted(0, idOf(x), 2))
		w.take("E1: R6", prevoted(0, idOf(x), 4), doWait(api.StepPrevote, 0, 2))
		w.at("E1: R6", 0, api.StepPrecommit)
		w.chosen("E1: R6", 0, idOf(x), 0, idOf(x))
		for round := 1; round < 6; round++ {
			w.take("E1: E5", over(api.StepPrecommit, round-1), doWait(api.StepPropose, round, 3*uint64(round+1)))
		}
		w.refused("E1: nothing was asked for", built(5, x), api.ErrInput)
		w.all("E1: E4", over(api.StepPropose, 5))
		w.at("E1: E4", 5, api.StepPrevote)
		w.all("E1: E4", over(api.StepPrevote, 5))
		w.at("E1: E4", 5, api.StepPrecommit)
		w.holds("E8", heldPolka(x, polka(0, x, 1, 2, 4)...))
		w.all("E1: R1", precommitted(5, idOf(x), 1), precommitted(5, idOf(x), 2))
		w.take("E1: R1", precommitted(5, idOf(x), 3), doDecide(x, cert(5, x, 1, 2, 3)))
	}
}
