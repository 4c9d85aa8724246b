package node_test

import (
	"reflect"
	"slices"
	"testing"

	"assent/api"
	"assent/chain"
	"assent/disk"
	"assent/wire"
)

// TestWrittenFirst: each input is a record of the log, synced, when the call answers: an Append and a Sync each, and no other call of the disk.
func TestWrittenFirst(t *testing.T) {
	w := begin(t, 4, 3)
	b := w.block(1)
	p := w.proposal(0, -1, b)
	v := w.prevote(0, idOf(b), 1)
	polka := api.Msg{Kind: api.MsgPolka, Block: b, Votes: w.polka(0, idOf(b), 1, 2, 4)}
	for k, c := range []struct {
		do   func() api.Errno
		want api.Input
	}{
		{func() api.Errno { return w.n.Deliver(0, form(t, voted(v))) }, api.Input{Kind: api.InVote, Now: 100, Votes: []api.Vote{v}}},
		{func() api.Errno { return w.n.Tick(103) }, api.Input{Kind: api.InStart, Now: 103}},
		{func() api.Errno { return w.n.Deliver(0, form(t, p)) }, api.Input{Kind: api.InProposal, Now: 103, Proposal: p.Proposal, Block: b, Good: true}},
		{func() api.Errno { return w.n.Tick(108) }, api.Input{Kind: api.InTimeout, Now: 108, Step: api.StepPropose}},
		{func() api.Errno { return w.n.Deliver(0, form(t, polka)) }, api.Input{Kind: api.InPolka, Now: 108, Block: b, Votes: polka.Votes, Good: true}},
	} {
		calls := w.d.Calls()
		w.is("N1", c.do(), api.OK)
		w.wrote("N1", k, c.want)
		if w.d.Calls() != calls+2 {
			t.Errorf("N1: %d calls of the disk", w.d.Calls()-calls)
		}
	}
	if got := w.d.Names(); !slices.Equal(got, []string{logName(1)}) {
		t.Errorf("N1: %v", got)
	}
}

// TestNotWritten: where a record can't be written or synced the node is dead, that error is the answer, and nothing hangs on the input: nothing is signed, sent or taken.
func TestNotWritten(t *testing.T) {
	for _, tr := range []struct {
		at, kind int
		done     bool
		want     api.Errno
	}{
		{1, api.TrFault, false, api.ErrFault}, {2, api.TrFault, false, api.ErrFault},
		{1, api.TrPower, false, api.ErrOff}, {2, api.TrPower, false, api.ErrOff}, {1, api.TrPower, true, api.ErrOff}, {2, api.TrPower, true, api.ErrOff},
	} {
		w := started(t, 4, 3)
		w.n.Out()
		p := w.proposal(0, -1, w.block(1))
		was := w.told()
		w.arm(tr.at, tr.kind, tr.done)
		w.deliver("N1", p, tr.want)
		was.Calls, was.Dead = was.Calls+tr.at, true
		if tr.kind == api.TrPower {
			was.Names, was.Errors = nil, w.told().Errors // the disk tells nothing any more
		}
		w.unchanged("N1", was)
		for _, e := range []api.Errno{w.n.Deliver(0, form(t, p)), w.n.Deliver(0, nil), w.n.Tick(200), w.n.Tick(api.MaxTime + 1), w.n.Submit(w.pay(1, 2, 1, 1, 0)), w.n.Submit(api.Tx{})} {
			w.is("P15.8", e, api.ErrDead)
		}
		was.Signed = w.r.Count() // the payment's
		w.unchanged("P15.8", was)
	}
}

// TestDeadTellsOn: what was to be sent when the node died is still told, once.
func TestDeadTellsOn(t *testing.T) {
	w := started(t, 4, 1) // it is own's turn: a proposal, a prevote
	w.arm(1, api.TrFault, false)
	w.tick("N1", 107, api.ErrFault)
	w.sent("N8", api.MsgProposal, api.MsgVote)
	w.sent("N8")
	if got := w.n.View(); got.Step != api.StepPrevote || !w.n.Dead() || w.n.Clock() != 107 {
		t.Errorf("N8: %+v", got)
	}
}

// TestHandedBack: own votes and proposals count, are not written down, and have come.
func TestHandedBack(t *testing.T) {
	w := started(t, 4, 1)
	all := w.sent("N2", api.MsgProposal, api.MsgVote)
	b := all[0].Block
	w.wrote("N2", 0, api.Input{Kind: api.InStart, Now: 102}, api.Input{Kind: api.InBuilt, Now: 102, Block: b})
	w.refuses("N2: own proposal has come", all[0], api.OK)
	w.refuses("N2: own vote has come", all[1], api.OK)
	w.deliver("N5", voted(w.prevote(0, idOf(b), 2)), api.OK)
	w.sent("N2: two of four")
	w.tick("N6", 104, api.OK)
	w.deliver("N5", voted(w.prevote(0, idOf(b), 3)), api.OK)
	w.votes("N2: own is the third", api.Vote{Kind: api.Precommit, Height: 1, Id: idOf(b), Time: 104, From: 1})
	w.refuses("N2: own vote has come", voted(w.precommit(0, idOf(b), 104, 1)), api.OK)
	w.view("N2", 0, api.StepPrecommit, 0, 0)
	w.deliver("N5", voted(w.precommit(0, idOf(b), 109, 4)), api.OK)
	w.deliver("N5", voted(w.precommit(0, idOf(b), 109, 2)), api.OK)
	w.at("N3", 1, false)
	_, c, _ := w.n.Block(1)
	if len(c.Marks) != 3 || c.Marks[0].Time != 104 || c.Marks[1].Time != 109 {
		t.Errorf("N3: %+v", c)
	}
	w.sent("N3")
}

// TestProposesAgain: in a later round own proposes what is valid, with its polka, sealed.
func TestProposesAgain(t *testing.T) {
	w := started(t, 4, 2)
	b := w.block(1)
	w.deliver("N5", api.Msg{Kind: api.MsgPolka, Block: b, Votes: w.polka(0, idOf(b), 1, 3, 4)}, api.OK)
	for _, a := range []api.Addr{1, 3, 4} {
		w.deliver("N5", voted(w.precommit(0, none, 0, a)), api.OK)
	}
	w.n.Out()
	w.tick("N6", 108, api.OK)
	all := w.sent("N2", api.MsgVote, api.MsgVote, api.MsgProposal, api.MsgVote)
	if want := w.proposal(1, 0, b, w.polka(0, idOf(b), 1, 3, 4)...); !reflect.DeepEqual(all[2], want) {
		t.Errorf("N2: %+v, want %+v", all[2], want)
	}
	w.refuses("N2: own proposal has come", all[2], api.OK)
	if got := w.records(1); slices.ContainsFunc(got, func(in api.Input) bool { return in.Kind == api.InBuilt }) {
		t.Errorf("N2: %s", inputs(got))
	}
}

// TestBuilt: a block is made of what waits, with the certificate that the archive has of the block ahead.
func TestBuilt(t *testing.T) {
	g := genesis(4)
	g.Accounts = append(g.Accounts, api.Account{Addr: 7, Balance: 50})
	w := newWorld(t, g, 3)
	w.open(100)
	w.grow(3) // at height 4 it is the turn of 4, then of 1, 2, 3
	_, last, _ := w.n.Block(3)
	txs := []api.Tx{w.pay(7, 9, 20, 3, 0), w.pay(2, 9, 1, 2, 0), w.pay(7, 9, 1, 1, 1)}
	for _, x := range []int{1, 0, 2} {
		w.is("N7", w.n.Submit(txs[x]), api.OK)
	}
	ev := w.evidence(2, 4)
	w.deliver("N5", api.Msg{Kind: api.MsgEvidence, Evidence: ev}, api.OK)
	st := w.n.State()
	for w.proposer(w.n.View().Round) != 3 || w.n.View().Step == api.StepNew { // all precommit none till it is own's turn
		w.tick("N6", w.n.Clock()+1, api.OK)
		for _, a := range []api.Addr{1, 2, 4} {
			if w.proposer(w.n.View().Round) != 3 {
				w.deliver("N5", voted(w.precommit(w.n.View().Round, none, 0, a)), api.OK)
			}
		}
	}
	want, e := chain.Make(st, w.r, txs, []api.Evidence{ev}, last, 3)
	w.is("Make", e, api.OK)
	if len(want.Txs) != 3 || len(want.Evidence) != 1 {
		t.Fatalf("the block is to hold more: %+v", want)
	}
	round := w.n.View().Round
	recs := w.records(4)
	if got := recs[len(recs)-1]; !likeInput(got, api.Input{Kind: api.InBuilt, Now: w.n.Clock(), Round: round, Block: want}) {
		t.Errorf("N2: %+v, want %+v", got.Block, want)
	}
	if got := w.n.Pool(); len(got) != 3 {
		t.Errorf("N2: what stands in a block that is not decided waits on: %v", got)
	}
}

// TestNotBuilt: where the archive can't tell the certificate of the block ahead, or none can be made of it, nothing is proposed, and the round goes by.
func TestNotBuilt(t *testing.T) {
	w := alone(t, 3)
	w.is("Replace", w.d.Replace(blockName(3), []byte("spoilt")), api.OK)
	w.tick("N6", 108, api.OK)
	w.wrote("N2: no certificate", 0, api.Input{Kind: api.InStart, Now: 108})
	w.view("N2: no certificate", 0, api.StepPropose, -1, -1)
	w.sent("N2: no certificate")
	w.tick("N6", 113, api.OK)
	w.wrote("N2: the round goes by", 1, api.Input{Kind: api.InTimeout, Now: 113, Step: api.StepPropose})
	w.sent("N2: the round goes by", api.MsgVote, api.MsgVote)

	w = begin(t, 4, 1)
	b := w.block(2)
	w.deliver("N5: they give times that are over", decision(b, w.cert(0, b, 100, 2, 3, 4)), api.OK)
	for w.proposer(w.n.View().Round) != 1 || w.n.View().Step == api.StepNew {
		w.tick("N6", w.n.Clock()+1, api.OK)
		for _, a := range []api.Addr{2, 3, 4} {
			if w.proposer(w.n.View().Round) != 1 {
				w.deliver("N5", voted(w.precommit(w.n.View().Round, none, 0, a)), api.OK)
			}
		}
	}
	w.view("N2: Make refuses", w.n.View().Round, api.StepPropose, -1, -1)
	if got := w.records(2); slices.ContainsFunc(got, func(in api.Input) bool { return in.Kind == api.InBuilt }) {
		t.Errorf("N2: %s", inputs(got))
	}
}

// twoBuilds is a node that is asked for a block of round 0, and in the same call for one of round 4: it hears of that round ahead of its beginning.
func twoBuilds(t *testing.T) *world {
	t.Helper()
	w := begin(t, 4, 1)
	for _, a := range []api.Addr{2, 3} {
		w.deliver("N5", voted(w.prevote(4, none, a)), api.OK)
	}
	return w
}

// TestEngineRefuses: what the engine refuses stands in the log, and is nothing; playing the log comes to the same.
func TestEngineRefuses(t *testing.T) {
	w := twoBuilds(t)
	w.tick("N6", 102, api.OK)
	b := w.block(1)
	w.wrote("N1", 2, api.Input{Kind: api.InStart, Now: 102}, api.Input{Kind: api.InBuilt, Now: 102, Block: b}, api.Input{Kind: api.InBuilt, Now: 102, Round: 4, Block: b})
	w.view("N1", 4, api.StepPrevote, -1, -1)
	all := w.sent("N1: nothing is proposed in round 0", api.MsgProposal, api.MsgVote)
	if all[0].Proposal.Round != 4 {
		t.Errorf("N1: %+v", all[0].Proposal)
	}
	was := w.told()
	w.open(102)
	again := w.sent("N4", api.MsgProposal, api.MsgVote)
	if !reflect.DeepEqual(again, all) {
		t.Errorf("P15.4: %+v, want %+v", again, all)
	}
	w.unchanged("P15.4", was)
	// The block of another round is not the one that was asked for, and waits for its turn in the log.
	w = twoBuilds(t)
	built := w.block(1, w.pay(2, 3, 1, 1, 0))
	w.putLog(1, api.Input{Kind: api.InStart, Now: 102}, api.Input{Kind: api.InBuilt, Now: 102, Round: 4, Block: built})
	w.open(102)
	if all := w.sent("N4", api.MsgProposal, api.MsgVote); all[0].Proposal.Id != idOf(built) || len(w.records(1)) != 4 {
		t.Errorf("N4: %s", inputs(w.records(1)))
	}
	for cut := range 6 { // the power goes somewhere between the three records, and the same comes of it
		w := twoBuilds(t)
		w.arm(1+cut, api.TrPower, cut%2 == 1)
		w.tick("N6", 102, api.ErrOff)
		w.crash()
		w.open(102)
		w.tick("N6", 104, api.OK)
		if got := w.records(1); len(got) != 5 || got[3].Round != 0 || got[4].Round != 4 {
			t.Errorf("N4: cut at %d: %s", cut, inputs(got))
		}
		if all := w.sent("N4", api.MsgProposal, api.MsgVote); all[0].Proposal.Round != 4 {
			t.Errorf("N4: cut at %d: %+v", cut, all[0].Proposal)
		}
		if got := w.r.Signed(1); len(got) != 2 {
			t.Errorf("P15.1: cut at %d: %d messages are signed", cut, len(got))
		}
	}
}

// TestFreshEvidence: of each member the first two votes that contradict each other are shown behind the decision, by rising member, and wait for a block.
func TestFreshEvidence(t *testing.T) {
	g := genesis(7)
	w := newWorld(t, g, 1)
	w.open(100)
	w.tick("N6", 102, api.OK)
	b := w.sent("N2", api.MsgProposal, api.MsgVote)[0].Block
	id := idOf(b)
	x, y, z := w.prevote(0, id, 7), w.prevote(0, none, 7), w.precommit(0, api.Hash{1}, 5, 7)
	p, q := w.precommit(1, none, 0, 6), w.precommit(1, id, 9, 6)
	for _, v := range []api.Vote{x, y, z, w.precommit(0, none, 0, 7), q, p} {
		w.deliver("N5", voted(v), api.OK)
	}
	w.sent("N2: as long as the height is not decided")
	for _, kind := range []int{api.Prevote, api.Precommit} {
		for a := api.Addr(2); a <= 5; a++ {
			v := api.Vote{Kind: kind, Height: 1, Id: id, From: a}
			if kind == api.Precommit {
				v.Time = 103
			}
			w.deliver("N5", voted(w.vote(v)), api.OK)
		}
	}
	w.at("N3", 1, false)
	all := w.sent("N3", api.MsgVote, api.MsgEvidence, api.MsgEvidence)
	want := []api.Evidence{{A: p, B: q}, {A: y, B: x}}
	for k, m := range all[1:] {
		if m.Evidence != want[k] {
			t.Errorf("N3: %+v, want %+v", m.Evidence, want[k])
		}
	}
	for _, m := range all[1:] {
		w.refuses("N3: it waits", m, api.ErrKnown)
	}
	for k := 0; k < 200 && w.n.State().Height == 1; k++ {
		w.tick("N6", w.n.Clock()+1, api.OK)
		_, all := w.out()
		for _, m := range all {
			if m.Kind == api.MsgProposal {
				if !slices.Equal(m.Block.Evidence, []api.Evidence{want[0], want[1]}) {
					t.Fatalf("N3: %+v", m.Block.Evidence)
				}
				w.deliver("N5", decision(m.Block, w.cert(8, m.Block, m.Block.Header.Time+1, 1, 2, 3, 4, 5)), api.OK)
				break
			}
		}
		if r := w.n.View().Round; w.n.State().Height == 1 && w.n.View().Step != api.StepNew && w.proposer(r) != 1 {
			for a := api.Addr(2); a <= 6; a++ {
				if w.n.View().Round == r {
					w.deliver("N5", voted(w.precommit(r, none, 0, a)), api.OK)
				}
			}
		}
	}
	w.at("N3", 2, false)
	for _, m := range all[1:] {
		w.refuses("N3: it is done", m, api.ErrDone)
	}
	w.sent("N3: and shown once")
}

// TestNotes: behind every eighth height the state is noted, behind no other; each decision is one call more of the disk, or two.
func TestNotes(t *testing.T) {
	w := begin(t, 4, 1)
	for h := uint64(1); h <= 25; h++ {
		calls := w.d.Calls()
		w.grow(1)
		want := 1
		if h%8 == 0 {
			want = 2
		}
		if w.d.Calls()-calls != want {
			t.Errorf("N3: %d calls of the disk at %d", w.d.Calls()-calls, h)
		}
		text, e := w.d.Read("state")
		if h < 8 {
			w.is("N3: no state is noted", e, api.ErrNoFile)
			continue
		}
		st, e := wire.DecodeState(text[:len(text)-32])
		w.is("N3", e, api.OK)
		if st.Height != h/8*8 || h%8 == 0 && !reflect.DeepEqual(st, w.n.State()) {
			t.Errorf("N3: at %d the state of %d is noted", h, st.Height)
		}
	}
}

// TestDecisionRefused: what the disk refuses of a decision kills; what was decided by then stays so.
func TestDecisionRefused(t *testing.T) {
	for _, kind := range []int{api.TrFault, api.TrPower} {
		for _, done := range []bool{false, true}[:kind] {
			want := api.ErrFault
			if kind == api.TrPower {
				want = api.ErrOff
			}
			// Save is refused: the block is not told, and nothing is lost.
			w := begin(t, 1, 1)
			w.arm(5, kind, done)
			w.tick("N3", 102, want)
			w.at("N3", 0, true)
			w.sent("N3: what was sealed by then is sent", api.MsgProposal, api.MsgVote, api.MsgVote)
			if v := w.n.View(); v.Height != 1 || v.Step != api.StepDone {
				t.Errorf("N3: %+v", v)
			}
			if kind == api.TrPower {
				w.crash()
			}
			w.open(103)
			w.at("N4: the log comes to the same, or it stands there", 1, false)
			w.isPlayed("P15.2")
			if w.r.Count() != 3 {
				t.Errorf("P15.1: %d messages are signed", w.r.Count())
			}
			// Save is refused of what others have decided.
			w = begin(t, 4, 1)
			b := w.block(2)
			m := decision(b, w.cert(0, b, 101, 2, 3, 4))
			w.arm(1, kind, done)
			w.deliver("N3", m, want)
			w.at("N3", 0, true)
			// Note is refused: the block is decided.
			w = alone(t, 7)
			w.arm(6, kind, done)
			w.tick("N3", 116, want)
			w.at("N3", 8, true)
			w.sent("N3", api.MsgProposal, api.MsgVote, api.MsgVote)
			w.tick("P15.8", 118, api.ErrDead)
			if kind == api.TrPower {
				w.crash()
			}
			w.open(116)
			w.at("P15.3", 8, false)
			w.isPlayed("P15.2")
			w.sent("P15.3")
		}
	}
}

// TestLogRefused: where the log of the next height can't be opened the node is dead behind the decision.
func TestLogRefused(t *testing.T) {
	w := begin(t, 4, 1)
	w.is("Append", w.d.Append(logName(2), []byte("torn")), api.OK) // no whole record: it is cut away
	b := w.block(2)
	m := decision(b, w.cert(0, b, 101, 2, 3, 4))
	w.arm(2, api.TrFault, false)
	w.deliver("N3", m, api.ErrFault)
	w.at("N3", 1, true)
	w.view("N3", 0, api.StepNew, -1, -1)
	w.deliver("P15.8", m, api.ErrDead)
	w.open(100)
	w.at("N4", 1, false)
	if got := w.records(2); len(got) != 0 {
		t.Errorf("N4: %s", inputs(got))
	}
}

// TestFull: whatever room a disk has, the node dies of it in time, has lost nothing, and goes on where there is more.
func TestFull(t *testing.T) {
	full := 0
	for size := 1; size < 3000; size += 37 {
		w := newWorld(t, genesis(1), 1)
		w.d, _ = disk.New(size)
		w.open(100)
		e := w.n.Tick(102)
		if e == api.OK {
			e = w.n.Tick(104)
		}
		if e == api.OK {
			continue
		}
		full++
		w.is("N1", e, api.ErrFull)
		w.at("N1", w.n.State().Height, true)
		w.tick("P15.8", 105, api.ErrDead)
		told := w.n.State().Height
		w.n.Out()
		if e := w.tryOpen(105); e == api.OK {
			w.at("N4", told, false)
		} else {
			w.is("N4", e, api.ErrFull)
		}
		w.crash()
		w.open(105)
		for now := uint64(106); now < 120; now++ {
			w.tick("N6", now, api.OK)
		}
		if w.n.State().Height < told+3 {
			t.Errorf("N4: it does not go on: %d, %d", told, w.n.State().Height)
		}
		w.isPlayed("P15.2")
		w.isHonest()
	}
	if full < 10 {
		t.Errorf("it was full %d times", full)
	}
}

// isHonest is P15.1: of what own has signed no two votes of one kind, height and round, and no two proposals of one height and round, are unlike.
func (w *world) isHonest() {
	w.t.Helper()
	wantHonest(w.t, w.g.Chain, w.r.Signed(w.own))
}
