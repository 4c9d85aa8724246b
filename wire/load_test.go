package wire_test

import (
	"math"
	"strings"
	"testing"

	"assent/api"
	"assent/wire"
)

// goodMsgs has a plain message of each kind, those with lists also with other lengths of them.
func goodMsgs() []api.Msg {
	return []api.Msg{
		{Kind: api.MsgProposal, Proposal: goodProposal(), Block: goodBlock(), Votes: prevotes(3)},
		{Kind: api.MsgProposal, Proposal: freshProposal(), Block: bareBlock()},
		{Kind: api.MsgVote, Votes: []api.Vote{goodVote()}},
		{Kind: api.MsgPolka, Block: goodBlock(), Votes: prevotes(64)},
		{Kind: api.MsgPolka, Block: bareBlock(), Votes: prevotes(1)},
		{Kind: api.MsgStatus, Height: 700, Round: 300},
		{Kind: api.MsgDecision, Block: goodBlock(), Cert: goodCert()},
		{Kind: api.MsgTx, Tx: goodTx()},
		{Kind: api.MsgEvidence, Evidence: goodEvidence()},
	}
}

func goodInputs() []api.Input {
	return []api.Input{
		{Kind: api.InStart, Now: 1000},
		{Kind: api.InStart},
		{Kind: api.InProposal, Now: 1001, Proposal: goodProposal(), Block: goodBlock(), Votes: prevotes(3), Good: true},
		{Kind: api.InProposal, Now: 1002, Proposal: freshProposal(), Block: bareBlock()},
		{Kind: api.InVote, Now: 1003, Votes: []api.Vote{goodVote()}},
		{Kind: api.InPolka, Now: 1004, Block: goodBlock(), Votes: prevotes(64), Good: true},
		{Kind: api.InPolka, Now: 1005, Block: bareBlock(), Votes: prevotes(1)},
		{Kind: api.InTimeout, Now: 1006, Step: api.StepPrecommit, Round: 300},
		{Kind: api.InBuilt, Now: 1007, Block: goodBlock(), Round: 301},
	}
}

// fillings of each field of a Msg: by a part that is not zero.
func fillMsg() map[string]func(*api.Msg) {
	return map[string]func(*api.Msg){
		"Proposal":       func(m *api.Msg) { m.Proposal.ValidRound = -1 },
		"Proposal.Seal":  func(m *api.Msg) { m.Proposal.Seal[15] = 1 },
		"Block.Header":   func(m *api.Msg) { m.Block.Header.State[31] = 1 },
		"Block.Chain":    func(m *api.Msg) { m.Block.Header.Chain = "c" },
		"Block.Txs":      func(m *api.Msg) { m.Block.Txs = make([]api.Tx, 1) },
		"Block.Evidence": func(m *api.Msg) { m.Block.Evidence = make([]api.Evidence, 1) },
		"Block.Last":     func(m *api.Msg) { m.Block.Last.Height = 1 },
		"Block.Marks":    func(m *api.Msg) { m.Block.Last.Marks = make([]api.Mark, 1) },
		"Votes":          func(m *api.Msg) { m.Votes = make([]api.Vote, 1) },
		"Cert.Height":    func(m *api.Msg) { m.Cert.Height = 1 },
		"Cert.Round":     func(m *api.Msg) { m.Cert.Round = -1 },
		"Cert.Id":        func(m *api.Msg) { m.Cert.Id[31] = 1 },
		"Cert.Marks":     func(m *api.Msg) { m.Cert.Marks = make([]api.Mark, 1) },
		"Tx":             func(m *api.Msg) { m.Tx.From = 1 },
		"Evidence.A":     func(m *api.Msg) { m.Evidence.A.Kind = 1 },
		"Evidence.B":     func(m *api.Msg) { m.Evidence.B.Seal[0] = 1 },
		"Height":         func(m *api.Msg) { m.Height = 1 },
		"Round":          func(m *api.Msg) { m.Round = -1 },
	}
}

func fillInput() map[string]func(*api.Input) {
	return map[string]func(*api.Input){
		"Proposal":       func(m *api.Input) { m.Proposal.From = 1 },
		"Block.Header":   func(m *api.Input) { m.Block.Header.Height = 1 },
		"Block.Txs":      func(m *api.Input) { m.Block.Txs = make([]api.Tx, 1) },
		"Block.Evidence": func(m *api.Input) { m.Block.Evidence = make([]api.Evidence, 1) },
		"Block.Last":     func(m *api.Input) { m.Block.Last.Id[0] = 1 },
		"Votes":          func(m *api.Input) { m.Votes = make([]api.Vote, 1) },
		"Good":           func(m *api.Input) { m.Good = true },
		"Step":           func(m *api.Input) { m.Step = -1 },
		"Round":          func(m *api.Input) { m.Round = 1 },
	}
}

func msgUsesField(kind int, field string) bool {
	return strings.Contains(map[int]string{
		api.MsgProposal: "Proposal Block Votes", api.MsgVote: "Votes", api.MsgPolka: "Block Votes", api.MsgStatus: "Height Round",
		api.MsgDecision: "Block Cert", api.MsgTx: "Tx", api.MsgEvidence: "Evidence",
	}[kind], strings.Split(field, ".")[0])
}

func inputUsesField(kind int, field string) bool {
	return strings.Contains(map[int]string{
		api.InStart: "", api.InProposal: "Proposal Block Votes Good", api.InVote: "Votes", api.InPolka: "Block Votes Good",
		api.InTimeout: "Step Round", api.InBuilt: "Block Round",
	}[kind], strings.Split(field, ".")[0])
}

func TestFieldsThatAKindDoesNotUse(t *testing.T) {
	for _, m := range goodMsgs() {
		for field, fill := range fillMsg() {
			if msgUsesField(m.Kind, field) {
				continue
			}
			wantErrs(t, "W8", wire.PlainMsg, wire.EncodeMsg, []trial[api.Msg]{{field, changed(m, fill), api.ErrField}})
		}
	}
	for _, x := range goodInputs() {
		for field, fill := range fillInput() {
			if inputUsesField(x.Kind, field) {
				continue
			}
			wantErrs(t, "W9", wire.PlainInput, wire.EncodeInput, []trial[api.Input]{{field, changed(x, fill), api.ErrField}})
		}
	}
}

func TestUnusedGoesAheadOfUsed(t *testing.T) {
	wantErrs(t, "W8", wire.PlainMsg, wire.EncodeMsg, []trial[api.Msg]{
		{"a transaction of no kind beside a height", api.Msg{Kind: api.MsgTx, Height: 1}, api.ErrField},
		{"a transaction of no kind", api.Msg{Kind: api.MsgTx}, api.ErrKind},
		{"no kind at all, with every field", changed(goodMsgs()[0], func(m *api.Msg) { m.Kind, m.Tx, m.Height = 0, goodTx(), 1 }), api.ErrKind},
		{"a used field that is zero makes no room for another", api.Msg{Kind: api.MsgStatus, Height: 7, Tx: goodTx()}, api.ErrField},
		{"nor do two", api.Msg{Kind: api.MsgVote, Height: 7}, api.ErrField},
	})
	wantErrs(t, "W9", wire.PlainInput, wire.EncodeInput, []trial[api.Input]{
		{"a vote of no kind beside a step", api.Input{Kind: api.InVote, Votes: make([]api.Vote, 1), Step: 1}, api.ErrField},
		{"a vote of no kind", api.Input{Kind: api.InVote, Votes: make([]api.Vote, 1)}, api.ErrKind},
		{"a vote of no kind at no time", api.Input{Kind: api.InVote, Now: tooLate, Votes: make([]api.Vote, 1)}, api.ErrField},
	})
}

// TestEmptyLists: an empty list is as good as none, wherever it stands.
func TestEmptyLists(t *testing.T) {
	hollow := api.Block{Txs: []api.Tx{}, Evidence: []api.Evidence{}, Last: api.Cert{Marks: []api.Mark{}}}
	m := api.Msg{Kind: api.MsgStatus, Height: 7, Round: 2, Block: hollow, Votes: []api.Vote{}, Cert: hollow.Last}
	if b, e := wire.EncodeMsg(m); e != api.OK || string(b) != "\x04\x07\x02" {
		t.Errorf("W8, example 5: % x, error %d", b, e)
	}
	x := api.Input{Kind: api.InTimeout, Now: 5, Step: 2, Round: 1, Block: hollow, Votes: []api.Vote{}}
	if b, e := wire.EncodeInput(x); e != api.OK || string(b) != "\x05\x05\x02\x01" {
		t.Errorf("W9, example 8: % x, error %d", b, e)
	}
	p := api.Msg{Kind: api.MsgProposal, Proposal: freshProposal(), Block: bareBlock(), Votes: []api.Vote{}}
	if e := wire.PlainMsg(p); e != api.OK {
		t.Errorf("W8: a proposal with an empty list of votes: error %d", e)
	}
}

// votesTrials: what is to be said of a list of votes.
func votesTrials() []trial[[]api.Vote] {
	falling := []api.Vote{prevoteOf(3), prevoteOf(2)}
	twice := []api.Vote{prevoteOf(3), prevoteOf(3)}
	unlike := []api.Vote{prevoteOf(3), goodVote()}
	wrongThen := func(wrong api.Vote) []api.Vote { return append([]api.Vote{prevoteOf(9), wrong}, falling...) }
	return []trial[[]api.Vote]{
		{"one", prevotes(1), api.OK},
		{"64", prevotes(64), api.OK},
		{"65", prevotes(65), api.ErrBig},
		{"65, the first of no kind", append(make([]api.Vote, 1), prevotes(64)...), api.ErrBig},
		{"falling", falling, api.ErrOrder},
		{"twice the same member", twice, api.ErrOrder},
		{"of unlike kinds, rounds, ids and heights", unlike, api.OK},
		{"one of no kind, then falling ones", wrongThen(api.Vote{From: 10}), api.ErrKind},
		{"one with no height, then falling ones", wrongThen(api.Vote{Kind: 1, From: 10}), api.ErrField},
		{"falling ones, then one of no kind", append(falling, api.Vote{From: 10}), api.ErrOrder},
		{"one that falls and is of no kind", []api.Vote{prevoteOf(3), {From: 2}}, api.ErrKind},
		{"the greatest member", []api.Vote{prevoteOf(1), prevoteOf(math.MaxUint64)}, api.OK},
	}
}

func TestListsOfVotes(t *testing.T) {
	for _, c := range votesTrials() {
		wantErrs(t, "W8, MsgProposal", wire.PlainMsg, wire.EncodeMsg, []trial[api.Msg]{
			{c.what, api.Msg{Kind: api.MsgProposal, Proposal: goodProposal(), Block: bareBlock(), Votes: c.x}, c.want},
			{c.what + ", beside none valid", api.Msg{Kind: api.MsgProposal, Proposal: freshProposal(), Block: bareBlock(), Votes: c.x}, api.ErrField},
			{c.what + ", a polka", api.Msg{Kind: api.MsgPolka, Block: bareBlock(), Votes: c.x}, c.want},
		})
		wantErrs(t, "W9, InProposal", wire.PlainInput, wire.EncodeInput, []trial[api.Input]{
			{c.what, api.Input{Kind: api.InProposal, Proposal: goodProposal(), Block: bareBlock(), Votes: c.x}, c.want},
			{c.what + ", beside none valid", api.Input{Kind: api.InProposal, Proposal: freshProposal(), Block: bareBlock(), Votes: c.x}, api.ErrField},
			{c.what + ", a polka", api.Input{Kind: api.InPolka, Block: bareBlock(), Votes: c.x}, c.want},
		})
	}
}

func TestPlainMsg(t *testing.T) {
	noKind := bareBlock()
	noKind.Txs = make([]api.Tx, 1)
	trials := []trial[api.Msg]{
		{"kind 8", api.Msg{Kind: 8}, api.ErrKind},
		{"kind -1", api.Msg{Kind: -1}, api.ErrKind},
		{"kind 260: a byte would hold 4", api.Msg{Kind: 260, Height: 1}, api.ErrKind},
		{"the zero one", api.Msg{}, api.ErrKind},
		{"a wrong proposal ahead of a wrong block", api.Msg{Kind: api.MsgProposal, Block: noKind}, api.ErrField},
		{"a wrong block ahead of wrong votes", api.Msg{Kind: api.MsgProposal, Proposal: freshProposal(), Block: noKind, Votes: prevotes(1)}, api.ErrKind},
		{"no votes where one is valid", api.Msg{Kind: api.MsgProposal, Proposal: goodProposal(), Block: bareBlock()}, api.OK},
		{"no vote", api.Msg{Kind: api.MsgVote}, api.ErrField},
		{"two votes", api.Msg{Kind: api.MsgVote, Votes: prevotes(2)}, api.ErrField},
		{"two votes of no kind", api.Msg{Kind: api.MsgVote, Votes: make([]api.Vote, 2)}, api.ErrField},
		{"a vote of no kind", api.Msg{Kind: api.MsgVote, Votes: make([]api.Vote, 1)}, api.ErrKind},
		{"a polka of none", api.Msg{Kind: api.MsgPolka, Block: bareBlock()}, api.ErrField},
		{"a polka of none for a wrong block", api.Msg{Kind: api.MsgPolka, Block: noKind}, api.ErrKind},
		{"example 5: height 0", api.Msg{Kind: api.MsgStatus, Round: 2}, api.ErrField},
		{"a height too great", api.Msg{Kind: api.MsgStatus, Height: tooHigh}, api.ErrField},
		{"the greatest height and round", api.Msg{Kind: api.MsgStatus, Height: api.MaxHeight, Round: api.MaxRound}, api.OK},
		{"a round too great", api.Msg{Kind: api.MsgStatus, Height: 1, Round: tooFar}, api.ErrField},
		{"round -1", api.Msg{Kind: api.MsgStatus, Height: 1, Round: -1}, api.ErrField},
		{"example 5: a transaction beside", api.Msg{Kind: api.MsgStatus, Height: 7, Round: 2, Tx: api.Tx{From: 1}}, api.ErrField},
		{"decided by the zero certificate", api.Msg{Kind: api.MsgDecision, Block: bareBlock()}, api.ErrField},
		{"a wrong block, decided by it", api.Msg{Kind: api.MsgDecision, Block: noKind}, api.ErrKind},
		{"decided by too many marks", api.Msg{Kind: api.MsgDecision, Block: bareBlock(), Cert: api.Cert{Height: 1, Id: id(1), Marks: marks(65)}}, api.ErrBig},
		{"evidence of nothing", api.Msg{Kind: api.MsgEvidence}, api.ErrKind},
		{"evidence the wrong way round", api.Msg{Kind: api.MsgEvidence, Evidence: api.Evidence{A: goodEvidence().B, B: goodEvidence().A}}, api.ErrOrder},
	}
	for _, m := range goodMsgs() {
		trials = append(trials, trial[api.Msg]{"a good one", m, api.OK})
	}
	wantErrs(t, "W8", wire.PlainMsg, wire.EncodeMsg, trials)
}

func TestPlainInput(t *testing.T) {
	noKind := bareBlock()
	noKind.Txs = make([]api.Tx, 1)
	trials := []trial[api.Input]{
		{"kind 0", api.Input{}, api.ErrKind},
		{"kind 7", api.Input{Kind: 7}, api.ErrKind},
		{"kind 7 at no time, with a step", api.Input{Kind: 7, Now: tooLate, Step: 1}, api.ErrKind},
		{"kind 257: a byte would hold 1", api.Input{Kind: 257}, api.ErrKind},
		{"the greatest time", api.Input{Kind: api.InStart, Now: api.MaxTime}, api.OK},
		{"a greater one", api.Input{Kind: api.InStart, Now: tooLate}, api.ErrField},
		{"a greater one ahead of a wrong block", api.Input{Kind: api.InBuilt, Now: tooLate, Block: noKind}, api.ErrField},
		{"a wrong proposal ahead of a wrong block", api.Input{Kind: api.InProposal, Block: noKind}, api.ErrField},
		{"a wrong block ahead of wrong votes", api.Input{Kind: api.InProposal, Proposal: freshProposal(), Block: noKind, Votes: prevotes(1)}, api.ErrKind},
		{"no votes where one is valid", api.Input{Kind: api.InProposal, Proposal: goodProposal(), Block: bareBlock()}, api.OK},
		{"no vote", api.Input{Kind: api.InVote}, api.ErrField},
		{"two votes", api.Input{Kind: api.InVote, Votes: prevotes(2)}, api.ErrField},
		{"a polka of none", api.Input{Kind: api.InPolka, Block: bareBlock(), Good: true}, api.ErrField},
		{"a polka of none for a wrong block", api.Input{Kind: api.InPolka, Block: noKind}, api.ErrKind},
		{"example 8", api.Input{Kind: api.InTimeout, Now: 5, Step: 2, Round: 1}, api.OK},
		{"example 8: step 4", api.Input{Kind: api.InTimeout, Now: 5, Step: 4, Round: 1}, api.ErrField},
		{"example 8: good", api.Input{Kind: api.InTimeout, Now: 5, Step: 2, Round: 1, Good: true}, api.ErrField},
		{"step 0", api.Input{Kind: api.InTimeout}, api.ErrField},
		{"step 1", api.Input{Kind: api.InTimeout, Step: 1}, api.OK},
		{"step 3", api.Input{Kind: api.InTimeout, Step: 3}, api.OK},
		{"step 257: a byte would hold 1", api.Input{Kind: api.InTimeout, Step: 257}, api.ErrField},
		{"step -1", api.Input{Kind: api.InTimeout, Step: -1}, api.ErrField},
		{"the greatest round", api.Input{Kind: api.InTimeout, Step: 1, Round: api.MaxRound}, api.OK},
		{"a greater one", api.Input{Kind: api.InTimeout, Step: 1, Round: tooFar}, api.ErrField},
		{"round -1", api.Input{Kind: api.InTimeout, Step: 1, Round: -1}, api.ErrField},
		{"built for a round too great", api.Input{Kind: api.InBuilt, Block: bareBlock(), Round: tooFar}, api.ErrField},
		{"a wrong block for a round too great", api.Input{Kind: api.InBuilt, Block: noKind, Round: tooFar}, api.ErrKind},
		{"nothing built", api.Input{Kind: api.InBuilt}, api.ErrField},
	}
	for _, x := range goodInputs() {
		trials = append(trials, trial[api.Input]{"a good one", x, api.OK})
	}
	wantErrs(t, "W9", wire.PlainInput, wire.EncodeInput, trials)
}
