package node_test

import (
	"reflect"
	"slices"
	"testing"

	"assent/api"
	"assent/chain"
	"assent/misdeed"
	"assent/wire"
)

// fault is something wrong with a message, and what is answered for it.
type fault struct {
	what string
	bend func(m *api.Msg)
	want api.Errno
}

// seal seals all that a message holds, as it stands.
func (w *world) seal(m *api.Msg) {
	w.t.Helper()
	if m.Kind == api.MsgProposal {
		*m = w.sealProposal(*m)
	}
	m.Votes = slices.Clone(m.Votes)
	for k, v := range m.Votes {
		m.Votes[k] = w.vote(v)
	}
}

// wantOrder: with each fault, and with each two of them, the answer is that of the one that is named first. Unseal is done behind the sealing, if its fault is among them.
func (w *world) wantOrder(good api.Msg, faults []fault, unseal map[string]func(m *api.Msg)) {
	w.t.Helper()
	for k, x := range faults {
		for _, y := range faults[k:] {
			m := good
			m.Votes = slices.Clone(m.Votes)
			m.Cert.Marks = slices.Clone(m.Cert.Marks)
			for _, f := range []fault{y, x} {
				if f.bend != nil {
					f.bend(&m)
				}
			}
			w.seal(&m)
			for _, f := range []fault{x, y} {
				if unseal[f.what] != nil {
					unseal[f.what](&m)
				}
			}
			if wire.PlainMsg(m) == api.OK { // two faults together may not be a message at all
				w.refuses("N5: "+x.what+", "+y.what, m, x.want)
			}
		}
		if x.bend == nil && unseal[x.what] == nil {
			w.t.Fatalf("%s: no fault", x.what)
		}
	}
}

// voteAt is a vote of a message, or, if there is none, one of no message.
func voteAt(m *api.Msg, at int) *api.Vote {
	if at >= len(m.Votes) {
		return &api.Vote{}
	}
	return &m.Votes[at]
}

// votersWrong are the ways in which votes are no polka for a block.
func votersWrong(other api.Hash) []fault {
	return []fault{
		{"a precommit among the votes", func(m *api.Msg) { voteAt(m, 1).Kind = api.Precommit }, api.ErrInput},
		{"a vote of another height", func(m *api.Msg) { voteAt(m, 2).Height++ }, api.ErrInput},
		{"a vote of another round", func(m *api.Msg) { voteAt(m, 2).Round++ }, api.ErrInput},
		{"a vote for another block", func(m *api.Msg) { voteAt(m, 1).Id = other }, api.ErrInput},
		{"a vote for none", func(m *api.Msg) { voteAt(m, 1).Id = none }, api.ErrInput},
		{"a vote by no member", func(m *api.Msg) { voteAt(m, 2).From = 9 }, api.ErrInput},
		{"too few votes", func(m *api.Msg) { m.Votes = m.Votes[:min(2, len(m.Votes))] }, api.ErrInput},
	}
}

// TestProposalOrder: what is wrong with a proposal, the first first.
func TestProposalOrder(t *testing.T) {
	w := begin(t, 4, 4)
	w.grow(1)
	w.tick("N6", 110, api.OK)
	b := w.block(3)
	good := w.proposal(2, 1, b, w.polka(1, idOf(b), 1, 2, 3)...)
	faults := []fault{
		{"a height that is decided", func(m *api.Msg) { m.Proposal.Height = 1 }, api.ErrSource},
		{"a height too far", func(m *api.Msg) { m.Proposal.Height = 3 }, api.ErrSource},
		{"another's turn", func(m *api.Msg) { m.Proposal.From = w.proposer(3) }, api.ErrSource},
		{"no member's turn", func(m *api.Msg) { m.Proposal.From = 9 }, api.ErrSource},
		{"another seal", nil, api.ErrSeal},
		{"another block's id", func(m *api.Msg) { m.Proposal.Id[3]++ }, api.ErrInput},
		{"a block of another height", func(m *api.Msg) {
			m.Block.Header.Height = 1
			m.Proposal.Id = idOf(m.Block)
			for k := range m.Votes {
				m.Votes[k].Id = m.Proposal.Id
			}
		}, api.ErrInput},
		{"no votes", func(m *api.Msg) { m.Votes = nil }, api.ErrInput},
	}
	faults = append(faults, votersWrong(api.Hash{7})...)
	faults = append(faults, fault{"a vote's seal", nil, api.ErrSeal})
	w.wantOrder(good, faults, map[string]func(m *api.Msg){
		"another seal": func(m *api.Msg) { m.Proposal.Seal[0]++ },
		"a vote's seal": func(m *api.Msg) {
			if len(m.Votes) > 0 {
				m.Votes[len(m.Votes)-1].Seal[0]++
			}
		},
	})
	w.deliver("N5", good, api.OK)
	w.wrote("N5", 1, api.Input{Kind: api.InProposal, Now: 110, Proposal: good.Proposal, Block: b, Votes: good.Votes, Good: true})
	w.refuses("P15.7", good, api.OK)
}

// TestProposalTurns: just whose turn it is in a round is heard, up to the last round.
func TestProposalTurns(t *testing.T) {
	w := started(t, 4, 4)
	b := w.block(1)
	for _, round := range []int{0, 1, 2, 7, api.MaxRound} {
		for a := api.Addr(1); a <= 5; a++ {
			m := w.proposal(round, -1, b)
			m.Proposal.From = a
			m = w.sealProposal(m)
			want := api.ErrSource
			if a == w.proposer(round) {
				want = api.OK
			}
			w.deliver("N5", m, want)
		}
	}
}

// TestProposalGood: a block that is not valid is handed in all the same, as one that is not good.
func TestProposalGood(t *testing.T) {
	w := started(t, 4, 2)
	w.n.Out()
	b := w.block(1)
	b.Header.Time++
	m := w.proposal(0, -1, b)
	w.deliver("N5", m, api.OK)
	w.wrote("N5", 1, api.Input{Kind: api.InProposal, Now: 102, Proposal: m.Proposal, Block: b})
	w.votes("N2: a prevote for none", api.Vote{Kind: api.Prevote, Height: 1, From: 2})
	w = started(t, 4, 2)
	b = w.block(1)
	m = w.proposal(0, -1, b)
	w.deliver("N5", m, api.OK)
	w.wrote("N5", 1, api.Input{Kind: api.InProposal, Now: 102, Proposal: m.Proposal, Block: b, Good: true})
	w.votes("N2: a prevote for it", api.Vote{Kind: api.Prevote, Height: 1, Id: idOf(b), From: 2})
	// Two proposals of one round: another one has not come yet.
	other := w.block(2)
	m = w.proposal(0, -1, other)
	w.deliver("N5", m, api.OK)
	if got := w.records(1); len(got) != 3 {
		t.Errorf("N5: %d records", len(got))
	}
}

// TestGoodLater: whether a block was good when it came says nothing of whether it has come.
func TestGoodLater(t *testing.T) {
	w := started(t, 4, 2)
	x := api.Tx{Kind: api.TxPay, From: 1, To: 3, Amount: 1}
	msg, _ := wire.TxBytes(name, x)
	twin := newWorld(t, w.g, 0) // where it is signed already
	x.Seal, _ = twin.signer(1).Sign(msg)
	b := w.block(1)
	b.Txs = []api.Tx{x}
	b.Header.Txs, _ = wire.TxsRoot(b.Txs)
	w.is("not signed yet", chain.Valid(w.n.State(), w.r, b), api.ErrSeal)
	m := w.proposal(0, -1, b)
	w.deliver("N5", m, api.OK)
	polka := api.Msg{Kind: api.MsgPolka, Block: b, Votes: w.polka(0, idOf(b), 1, 3, 4)}
	w.deliver("N5", polka, api.OK)
	_, _ = w.signer(1).Sign(msg)
	w.is("signed", chain.Valid(w.n.State(), w.r, b), api.OK)
	w.refuses("N5: come already", m, api.OK)
	w.refuses("N5: come already", polka, api.OK)
	if got := w.records(1); len(got) != 3 || got[1].Good || got[2].Good {
		t.Errorf("N5: %s", inputs(got))
	}
}

func TestVoteOrder(t *testing.T) {
	w := begin(t, 4, 4)
	w.grow(1)
	w.tick("N6", 110, api.OK)
	good := voted(w.precommit(2, api.Hash{5}, 7, 3))
	w.wantOrder(good, []fault{
		{"a height that is decided", func(m *api.Msg) { m.Votes[0].Height = 1 }, api.ErrSource},
		{"a height too far", func(m *api.Msg) { m.Votes[0].Height = 3 }, api.ErrSource},
		{"the last height", func(m *api.Msg) { m.Votes[0].Height = api.MaxHeight }, api.ErrSource},
		{"no member", func(m *api.Msg) { m.Votes[0].From = 5 }, api.ErrMember},
		{"another seal", nil, api.ErrSeal},
	}, map[string]func(m *api.Msg){"another seal": func(m *api.Msg) { m.Votes[0].Seal[9]++ }})
	for what, bend := range map[string]func(v *api.Vote){ // the seal is of the vote as it was
		"another kind":  func(v *api.Vote) { v.Kind, v.Time = api.Prevote, 0 },
		"another round": func(v *api.Vote) { v.Round++ },
		"another id":    func(v *api.Vote) { v.Id[0]++ },
		"another time":  func(v *api.Vote) { v.Time++ },
		"another one's": func(v *api.Vote) { v.From = 1 },
	} {
		v := good.Votes[0]
		bend(&v)
		w.refuses("N5: "+what, voted(v), api.ErrSeal)
	}
	w.deliver("N5", good, api.OK)
	w.wrote("N5", 1, api.Input{Kind: api.InVote, Now: 110, Votes: good.Votes})
	w.refuses("P15.7", good, api.OK)
	// What differs in the time alone has not come.
	again := voted(w.precommit(2, api.Hash{5}, 8, 3))
	w.deliver("N5", again, api.OK)
	w.wrote("N5", 2, api.Input{Kind: api.InVote, Now: 110, Votes: again.Votes})
}

// TestVotesAhead: votes and proposals are taken from the moment on at which the node comes to the height, ahead of its beginning; not those of the one behind it.
func TestVotesAhead(t *testing.T) {
	w := begin(t, 4, 4)
	v := w.prevote(0, none, 1)
	w.deliver("N5", voted(v), api.OK)
	w.wrote("N5", 0, api.Input{Kind: api.InVote, Now: 100, Votes: []api.Vote{v}})
	b := w.block(1)
	m := w.proposal(0, -1, b)
	w.deliver("N5", m, api.OK)
	w.view("N5: not begun", 0, api.StepNew, -1, -1)
	w.sent("N5: not begun")
	v = w.vote(api.Vote{Kind: api.Prevote, Height: 2, From: 1})
	w.refuses("N5: the height behind", voted(v), api.ErrSource)
	w.tick("N6", 102, api.OK)
	w.wrote("N6", 2, api.Input{Kind: api.InStart, Now: 102})
	w.votes("N2", api.Vote{Kind: api.Prevote, Height: 1, Id: idOf(b), From: 4})
}

func TestPolkaOrder(t *testing.T) {
	w := begin(t, 4, 4)
	w.grow(1)
	w.tick("N6", 110, api.OK)
	b := w.block(3)
	good := api.Msg{Kind: api.MsgPolka, Block: b, Votes: w.polka(1, idOf(b), 1, 2, 3)}
	faults := []fault{
		{"a height that is decided", func(m *api.Msg) { m.Block.Header.Height = 1 }, api.ErrSource},
		{"a height too far", func(m *api.Msg) { m.Block.Header.Height = 3 }, api.ErrSource},
		{"votes for another block", func(m *api.Msg) {
			for k := range m.Votes {
				m.Votes[k].Id = api.Hash{7}
			}
		}, api.ErrInput},
		{"all of another height", func(m *api.Msg) {
			for k := range m.Votes {
				m.Votes[k].Height = 1
			}
		}, api.ErrInput},
		{"the first of another round", func(m *api.Msg) { m.Votes[0].Round = 0 }, api.ErrInput},
	}
	faults = append(faults, votersWrong(api.Hash{7})...)
	faults = append(faults, fault{"a vote's seal", nil, api.ErrSeal})
	w.wantOrder(good, faults, map[string]func(m *api.Msg){"a vote's seal": func(m *api.Msg) { m.Votes[1].Seal[0]++ }})
	w.deliver("N5", good, api.OK)
	w.wrote("N5", 1, api.Input{Kind: api.InPolka, Now: 110, Block: b, Votes: good.Votes, Good: true})
	w.view("N5: skipped there", 1, api.StepPropose, -1, 1)
	w.refuses("P15.7", good, api.OK)
	bad := w.block(2)
	bad.Header.Time++
	m := api.Msg{Kind: api.MsgPolka, Block: bad, Votes: w.polka(2, idOf(bad), 1, 2, 3)}
	w.deliver("N5", m, api.OK)
	w.wrote("N5", 2, api.Input{Kind: api.InPolka, Now: 110, Block: bad, Votes: m.Votes})
	if v := w.n.View(); v.Round != 2 || v.Valid != 1 {
		t.Errorf("N5: not good: %+v", v)
	}
	four := api.Msg{Kind: api.MsgPolka, Block: b, Votes: w.polka(1, idOf(b), 1, 2, 3, 4)}
	w.deliver("N5: more votes than a quorum", four, api.OK)
	w.wrote("N5", 3, api.Input{Kind: api.InPolka, Now: 110, Block: b, Votes: four.Votes, Good: true})
}

// TestPolkaPowers: a quorum is more than two thirds of the power, not of the heads.
func TestPolkaPowers(t *testing.T) {
	g := genesis(4)
	for k, bond := range []uint64{1, 2, 3, 3} { // 9 in all: 7 are a quorum, 6 are just two thirds
		g.Accounts[k].Bond = bond
	}
	for _, c := range []struct {
		from []api.Addr
		want api.Errno
	}{
		{[]api.Addr{1, 2, 3}, api.ErrInput}, {[]api.Addr{3, 4}, api.ErrInput}, {[]api.Addr{1, 3, 4}, api.OK}, {[]api.Addr{2, 3, 4}, api.OK}, {[]api.Addr{2}, api.ErrInput},
	} {
		w := newWorld(t, g, 0)
		w.open(100)
		b := w.block(1)
		votes := w.polka(0, idOf(b), c.from...)
		w.deliver("N5", api.Msg{Kind: api.MsgPolka, Block: b, Votes: votes}, c.want)
		w.deliver("N5", w.proposal(1, 0, b, votes...), c.want)
	}
}

func TestDecisionOrder(t *testing.T) {
	w := begin(t, 4, 4)
	w.grow(1)
	w.tick("N6", 110, api.OK)
	b := w.block(3)
	good := decision(b, w.cert(1, b, 111, 1, 2, 3))
	reseal := func(m *api.Msg) { // the block is another one, the certificate is of it
		m.Cert = w.cert(1, m.Block, 111, 1, 2, 3)
	}
	w.wantOrder(good, []fault{
		{"a height that is decided", func(m *api.Msg) { m.Block.Header.Height = 1 }, api.ErrSource},
		{"a height too far", func(m *api.Msg) { m.Block.Header.Height = 3 }, api.ErrSource},
		{"a certificate of another height", func(m *api.Msg) { m.Cert.Height = 1 }, api.ErrCert},
		{"a certificate of another block", func(m *api.Msg) { m.Cert.Id[0]++ }, api.ErrCert},
		{"no member", func(m *api.Msg) { m.Cert.Marks[2].Index = 4 }, api.ErrMember},
		{"a seal", func(m *api.Msg) { m.Cert.Marks[0].Seal[0]++ }, api.ErrSeal},
		{"another time", func(m *api.Msg) { m.Cert.Marks[0].Time++ }, api.ErrSeal},
		{"another round", func(m *api.Msg) { m.Cert.Round++ }, api.ErrSeal},
	}, nil)
	for what, c := range map[string]struct {
		bend func(m *api.Msg)
		want api.Errno
	}{
		"too few":              {func(m *api.Msg) { m.Cert.Marks = m.Cert.Marks[:2] }, api.ErrQuorum},
		"nobody":               {func(m *api.Msg) { m.Cert.Marks = nil }, api.ErrQuorum},
		"another chain":        {func(m *api.Msg) { m.Block.Header.Chain = "d"; reseal(m) }, api.ErrChain},
		"another time":         {func(m *api.Msg) { m.Block.Header.Time++; reseal(m) }, api.ErrTime},
		"another block ahead":  {func(m *api.Msg) { m.Block.Header.Last[0]++; reseal(m) }, api.ErrLast},
		"another council":      {func(m *api.Msg) { m.Block.Header.Next[0]++; reseal(m) }, api.ErrSeats},
		"another root":         {func(m *api.Msg) { m.Block.Header.State[0]++; reseal(m) }, api.ErrRoots},
		"not a member's":       {func(m *api.Msg) { m.Block.Header.Proposer = 9; reseal(m) }, api.ErrTurn},
		"what it does not say": {func(m *api.Msg) { m.Block.Txs = []api.Tx{w.pay(1, 2, 1, 0, 0)} }, api.ErrRoots},
		"too few, and invalid": {func(m *api.Msg) { m.Block.Header.Time++; reseal(m); m.Cert.Marks = m.Cert.Marks[1:] }, api.ErrQuorum},
	} {
		m := good
		m.Cert.Marks = slices.Clone(m.Cert.Marks)
		c.bend(&m)
		w.refuses("N5: "+what, m, c.want)
	}
	calls := w.d.Calls()
	w.deliver("N5", good, api.OK)
	w.at("N5", 2, false)
	if got, cert, e := w.n.Block(2); e != api.OK || !reflect.DeepEqual(got, b) || !reflect.DeepEqual(cert, good.Cert) {
		t.Errorf("N5: error %d, %+v", e, got)
	}
	if w.d.Calls() != calls+1 || len(w.records(3)) != 0 {
		t.Errorf("N5: %d calls of the disk: a node that comes to a height by a certificate writes the archive alone", w.d.Calls()-calls)
	}
	w.view("N5", 0, api.StepNew, -1, -1)
	w.refuses("N5: it is decided", good, api.ErrSource)
}

// TestDecisionTime: the height behind what others have decided begins Pause ticks behind the clock.
func TestDecisionTime(t *testing.T) {
	w := begin(t, 4, 4)
	w.tick("N6", 101, api.OK)
	w.grow(1)
	w.tick("N6", 102, api.OK)
	w.view("N3: 101 + 2", 0, api.StepNew, -1, -1)
	w.tick("N6", 103, api.OK)
	w.view("N3: 101 + 2", 0, api.StepPropose, -1, -1)
}

// TestStatus: whoever is behind is helped on, a height each time; what can't be read is told.
func TestStatus(t *testing.T) {
	w := begin(t, 4, 4)
	w.grow(9)
	for h := uint64(1); h <= 9; h++ {
		w.is("N5", w.n.Deliver(3, form(t, api.Msg{Kind: api.MsgStatus, Height: h, Round: 7})), api.OK)
		b, c, _ := w.n.Block(h)
		if to, all := w.out(); len(all) != 1 || to[0] != 3 || !reflect.DeepEqual(all[0], decision(b, c)) {
			t.Errorf("N5: height %d: to %v", h, to)
		}
	}
	w.is("Replace", w.d.Replace(blockName(4), []byte("spoilt")), api.OK)
	was := w.told()
	w.is("N5", w.n.Deliver(3, form(t, api.Msg{Kind: api.MsgStatus, Height: 4})), api.ErrSpoilt)
	w.is("N5", w.n.Deliver(-3, form(t, api.Msg{Kind: api.MsgStatus, Height: 4})), api.ErrSource)
	w.unchanged("N5", was)
	w.arm(1, api.TrPower, false)
	w.is("Append", w.d.Append("x", nil), api.ErrOff)
	w.is("N5", w.n.Deliver(3, form(t, api.Msg{Kind: api.MsgStatus, Height: 5})), api.ErrOff)
	w.at("N5: reading kills nobody", 9, false)
	w.tick("N1", 400, api.ErrOff)
	w.at("N1", 9, true)
}

// evidence is two prevotes of a member at a height.
func (w *world) evidence(height uint64, from api.Addr) api.Evidence {
	w.t.Helper()
	v := api.Vote{Kind: api.Prevote, Height: height, From: from}
	u := v
	u.Id = api.Hash{1}
	e, refusal := misdeed.Pair(w.vote(v), w.vote(u))
	w.is("Pair", refusal, api.OK)
	return e
}

// TestEvidenceMessages: what others show waits for a block that the node makes, and is not sent on.
func TestEvidenceMessages(t *testing.T) {
	w := begin(t, 4, 1)
	w.grow(6)
	shown := func(e api.Evidence) api.Msg { return api.Msg{Kind: api.MsgEvidence, Evidence: e} }
	bad := w.evidence(6, 3)
	bad.B.Seal[0]++
	for what, c := range map[string]struct {
		e    api.Evidence
		want api.Errno
	}{
		"too old":          {w.evidence(2, 4), api.ErrAge},
		"not yet":          {w.evidence(7, 4), api.ErrAge},
		"no member":        {w.evidence(6, 9), api.ErrMember},
		"not rightly said": {bad, api.ErrSeal},
	} {
		w.refuses("N5: "+what, shown(c.e), c.want)
	}
	four, three := w.evidence(6, 4), w.evidence(3, 3)
	for _, e := range []api.Evidence{four, three} {
		w.deliver("N5", shown(e), api.OK)
		w.refuses("N5: it waits", shown(e), api.ErrKnown)
	}
	w.sent("N5: not sent on")
	for k := 0; w.n.State().Height == 6 && k < 200; k++ { // till it is its turn to make a block, and the others follow
		w.tick("N6", w.n.Clock()+1, api.OK)
		_, all := w.out()
		for _, m := range all {
			switch {
			case m.Kind == api.MsgProposal:
				if m.Proposal.ValidRound != -1 {
					t.Fatalf("an old block is proposed")
				}
				if !slices.Equal(m.Block.Evidence, []api.Evidence{three, four}) {
					t.Fatalf("N2: %d pieces of evidence", len(m.Block.Evidence))
				}
				w.deliver("N5", decision(m.Block, w.cert(9, m.Block, m.Block.Header.Time+1, 2, 3, 4)), api.OK)
			case m.Kind == api.MsgVote && m.Votes[0].Round == w.n.View().Round: // the others vote as it does
				for a := api.Addr(2); a <= 4; a++ {
					v := m.Votes[0]
					v.From = a
					w.deliver("N5", voted(w.vote(v)), api.OK)
				}
			}
		}
	}
	w.at("N5", 7, false)
	if got := w.n.State().Punished; !slices.Equal(got, []api.Offence{{Height: 6, Addr: 4}}) { // 3 is out of the past already
		t.Errorf("N3: %v", got)
	}
	w.refuses("N3: it is punished", shown(four), api.ErrDone)
}

// TestDeliverOrder: ErrDead is ahead of what is wrong with the bytes, that is ahead of all else.
func TestDeliverOrder(t *testing.T) {
	w := begin(t, 4, 4)
	wrong := map[string]struct {
		b    []byte
		want api.Errno
	}{
		"nothing":   {nil, api.ErrCut},
		"no kind":   {[]byte{0}, api.ErrKind},
		"cut":       {[]byte{4, 7}, api.ErrCut},
		"rest":      {[]byte{4, 7, 2, 0}, api.ErrRest},
		"field":     {[]byte{4, 0, 2}, api.ErrField},
		"not short": {[]byte{4, 0x87, 0, 2}, api.ErrForm},
		"big":       {make([]byte, api.MaxMsg+1), api.ErrBig},
	}
	for what, c := range wrong {
		was := w.told()
		w.is("N5: "+what, w.n.Deliver(-1, c.b), c.want)
		w.unchanged("N5: "+what, was)
	}
	w.arm(1, api.TrFault, false)
	w.tick("N1", 102, api.ErrFault)
	for what, c := range wrong {
		w.is("N5: dead: "+what, w.n.Deliver(-1, c.b), api.ErrDead)
	}
}
