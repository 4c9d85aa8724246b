package wire_test

import (
	"fmt"
	"strings"
	"testing"

	"assent/api"
	"assent/wire"
)

func TestForms(t *testing.T) {
	pay := api.Tx{Kind: 1, From: 5, To: 7, Amount: 300, Fee: 1}
	wantForm(t, "example 1", wire.EncodeTx, wire.DecodeTx, pay, "\x01\x05\x07\xac\x02\x01\x00"+zeros(16))
	wantForm(t, "W10, Tx", wire.EncodeTx, wire.DecodeTx, goodTx(), txForm(goodTx()))
	vote := api.Vote{Kind: 1, Height: 1, From: 3}
	wantForm(t, "example 2", wire.EncodeVote, wire.DecodeVote, vote, "\x01\x01\x00"+zeros(32)+"\x00\x03"+zeros(16))
	wantForm(t, "W10, Vote", wire.EncodeVote, wire.DecodeVote, goodVote(), voteForm(goodVote()))
	p, i := api.Proposal{Height: 2, Round: 1, ValidRound: -1, Id: id(1), From: 9}, id(1)
	wantForm(t, "example 3", wire.EncodeProposal, wire.DecodeProposal, p, "\x02\x01\x00"+string(i[:])+"\x09"+zeros(16))
	p.ValidRound = 0
	wantForm(t, "example 3, valid in 0", wire.EncodeProposal, wire.DecodeProposal, p, "\x02\x01\x01"+string(i[:])+"\x09"+zeros(16))
	wantForm(t, "W10, Proposal", wire.EncodeProposal, wire.DecodeProposal, goodProposal(), proposalForm(goodProposal()))
	wantForm(t, "example 4", wire.EncodeCert, wire.DecodeCert, api.Cert{}, zeros(35))
	wantForm(t, "W10, Cert", wire.EncodeCert, wire.DecodeCert, goodCert(), certForm(goodCert()))
	wantForm(t, "W10, Evidence", wire.EncodeEvidence, wire.DecodeEvidence, goodEvidence(), evidenceForm(goodEvidence()))
	wantForm(t, "W10, Header", wire.EncodeHeader, wire.DecodeHeader, goodHeader(), headerForm(goodHeader()))
	wantForm(t, "W10, Block", wire.EncodeBlock, wire.DecodeBlock, goodBlock(), blockForm(goodBlock()))
	bare := "\x01c\x01\x03" + zeros(7*32) + "\x02" + "\x00" + "\x00" + zeros(35)
	wantForm(t, "W10, a bare Block", wire.EncodeBlock, wire.DecodeBlock, bareBlock(), bare)
}

func TestFormsOfMsgs(t *testing.T) {
	block := blockForm(goodBlock())
	votes := listForm(prevotes(3), voteForm)
	wantForm(t, "example 5", wire.EncodeMsg, wire.DecodeMsg, api.Msg{Kind: api.MsgStatus, Height: 7, Round: 2}, "\x04\x07\x02")
	for what, c := range map[string]struct {
		x    api.Msg
		want string
	}{
		"MsgProposal":  {api.Msg{Kind: api.MsgProposal, Proposal: goodProposal(), Block: goodBlock(), Votes: prevotes(3)}, "\x01" + proposalForm(goodProposal()) + block + votes},
		"none valid":   {api.Msg{Kind: api.MsgProposal, Proposal: freshProposal(), Block: goodBlock()}, "\x01" + proposalForm(freshProposal()) + block + "\x00"},
		"MsgVote":      {api.Msg{Kind: api.MsgVote, Votes: []api.Vote{goodVote()}}, "\x02" + voteForm(goodVote())},
		"MsgPolka":     {api.Msg{Kind: api.MsgPolka, Block: goodBlock(), Votes: prevotes(3)}, "\x03" + block + votes},
		"MsgStatus":    {api.Msg{Kind: api.MsgStatus, Height: 700, Round: 300}, "\x04" + number(700) + number(300)},
		"MsgDecision":  {api.Msg{Kind: api.MsgDecision, Block: goodBlock(), Cert: goodCert()}, "\x05" + block + certForm(goodCert())},
		"MsgTx":        {api.Msg{Kind: api.MsgTx, Tx: goodTx()}, "\x06" + txForm(goodTx())},
		"MsgEvidence":  {api.Msg{Kind: api.MsgEvidence, Evidence: goodEvidence()}, "\x07" + evidenceForm(goodEvidence())},
		"a bare block": {api.Msg{Kind: api.MsgPolka, Block: bareBlock(), Votes: prevotes(1)}, "\x03" + blockForm(bareBlock()) + "\x01" + voteForm(prevotes(1)[0])},
	} {
		wantForm(t, "W10, "+what, wire.EncodeMsg, wire.DecodeMsg, c.x, c.want)
	}
}

func TestFormsOfInputs(t *testing.T) {
	block := blockForm(goodBlock())
	votes := listForm(prevotes(3), voteForm)
	wantForm(t, "example 8", wire.EncodeInput, wire.DecodeInput, api.Input{Kind: api.InTimeout, Now: 5, Step: 2, Round: 1}, "\x05\x05\x02\x01")
	for what, c := range map[string]struct {
		x    api.Input
		want string
	}{
		"InStart":    {api.Input{Kind: api.InStart, Now: 1000}, "\x01" + number(1000)},
		"InProposal": {api.Input{Kind: api.InProposal, Now: 1001, Proposal: goodProposal(), Block: goodBlock(), Votes: prevotes(3), Good: true}, "\x02" + number(1001) + proposalForm(goodProposal()) + block + votes + "\x01"},
		"not good":   {api.Input{Kind: api.InProposal, Proposal: freshProposal(), Block: goodBlock()}, "\x02\x00" + proposalForm(freshProposal()) + block + "\x00\x00"},
		"InVote":     {api.Input{Kind: api.InVote, Now: 1003, Votes: []api.Vote{goodVote()}}, "\x03" + number(1003) + voteForm(goodVote())},
		"InPolka":    {api.Input{Kind: api.InPolka, Now: 1004, Block: goodBlock(), Votes: prevotes(3), Good: true}, "\x04" + number(1004) + block + votes + "\x01"},
		"InTimeout":  {api.Input{Kind: api.InTimeout, Now: 1006, Step: 3, Round: 300}, "\x05" + number(1006) + "\x03" + number(300)},
		"InBuilt":    {api.Input{Kind: api.InBuilt, Now: 1007, Block: goodBlock(), Round: 301}, "\x06" + number(1007) + block + number(301)},
	} {
		wantForm(t, "W10, "+what, wire.EncodeInput, wire.DecodeInput, c.x, c.want)
	}
}

func TestDecodeRefuses(t *testing.T) {
	for b, want := range map[string]api.Errno{
		"\x09":                                 api.ErrKind, // example 6
		"":                                     api.ErrCut,
		"\x04\x07":                             api.ErrCut,
		"\x04\x07\x02\x00":                     api.ErrRest,
		"\x04\x00\x02":                         api.ErrField,
		"\x04\x87\x00\x02":                     api.ErrForm,
		"\x00":                                 api.ErrKind,
		"\x08\x80":                             api.ErrKind, // the rest is not looked at
		"\x00\x07\x02\x00":                     api.ErrKind,
		"\x04\x00\x02\x00":                     api.ErrRest, // ahead of the height that is none
		"\x04\x00":                             api.ErrCut,
		"\x04\x07\xff\xff\xff\xff\x07":         api.ErrField, // a round of 2^31 - 1
		"\x04\x07\x80\x80\x80\x80\x08":         api.ErrField, // of 2^31
		"\x04\x07\x85\x80\x80\x80\x10":         api.ErrField, // of 2^32 + 5
		"\x04\x07" + number(uint64(1<<63)):     api.ErrField,
		"\x04\x07" + number(^uint64(0)):        api.ErrField,
		"\x06" + zeros(22):                     api.ErrKind, // a transaction of kind 0
		"\x06" + zeros(21):                     api.ErrCut,
		"\x02" + voteForm(goodVote()) + "\x00": api.ErrRest,
		"\x05" + blockForm(bareBlock()) + zeros(35):                api.ErrField, // decided by the zero certificate
		"\x03" + blockForm(bareBlock()) + "\x00":                   api.ErrField, // a polka of none
		"\x03" + blockForm(bareBlock()) + "\x41":                   api.ErrOver,
		"\x03" + blockForm(bareBlock()) + "\x40":                   api.ErrCut,
		"\x03" + blockForm(bareBlock()) + "\x04\x01\x80\x00\x00":   api.ErrForm, // four may stand in four bytes
		"\x03" + blockForm(bareBlock()) + "\x05\x01\x80\x00\x00":   api.ErrCut,
		"\x03" + blockForm(bareBlock()) + "\x02" + zeros(1):        api.ErrCut,
		"\x04" + strings.Repeat("\x00", api.MaxMsg-1):              api.ErrRest,
		"\x09" + strings.Repeat("\x00", api.MaxMsg):                api.ErrBig, // ahead of the kind
		"\x04\x07\x02" + strings.Repeat("\x00", api.MaxMsg-3):      api.ErrRest,
		"\x04\x07\x02" + strings.Repeat("\x00", api.MaxMsg-2):      api.ErrBig,
		"\x04\x87\x00" + strings.Repeat("\x00", api.MaxMsg-2):      api.ErrBig,
		"\x01" + proposalForm(freshProposal()) + bareMsg + "\x01":  api.ErrCut,
		"\x01" + proposalForm(freshProposal()) + bareMsg + oneVote: api.ErrField,
	} {
		wantRefused(t, "W12, DecodeMsg of "+head(b), wire.DecodeMsg, b, want)
	}
	for b, want := range map[string]api.Errno{
		"":                                      api.ErrCut,
		"\x00":                                  api.ErrKind,
		"\x07\x80":                              api.ErrKind,
		"\x01":                                  api.ErrCut,
		"\x01\x00\x00":                          api.ErrRest,
		"\x01" + number(uint64(tooLate)):        api.ErrField,
		"\x05\x05\x04\x01":                      api.ErrField,
		"\x05\x05\x02":                          api.ErrCut,
		"\x05\x05\x02\xff\xff\xff\xff\xff\x00":  api.ErrForm,
		"\x05\x05\x02" + number(uint64(1<<32)):  api.ErrField,
		"\x04\x00" + bareMsg + oneVote + "\x02": api.ErrForm, // good is 2
		"\x04\x00" + bareMsg + oneVote:          api.ErrCut,
		"\x01\x00" + strings.Repeat("\x00", api.MaxRecord-2):                 api.ErrRest,
		"\x01\x00" + strings.Repeat("\x00", api.MaxRecord-1):                 api.ErrBig,
		"\x09" + strings.Repeat("\x00", api.MaxRecord):                       api.ErrBig,
		"\x06\x00" + bareMsg + number(uint64(tooFar)):                        api.ErrField,
		"\x02\x00" + proposalForm(freshProposal()) + bareMsg + "\x00" + "\a": api.ErrForm,
	} {
		wantRefused(t, "W12, DecodeInput of "+head(b), wire.DecodeInput, b, want)
	}
}

var (
	bareMsg = blockForm(bareBlock())
	oneVote = list(voteForm(prevoteOf(1)))
)

// head is the front of bytes, as a text to be told.
func head(b string) string { return fmt.Sprintf("%.20q", b) }

func TestDecodeRefusesOthers(t *testing.T) {
	h, i := headerForm(bareBlock().Header), zeros(32)
	for b, want := range map[string]api.Errno{
		h + "\x00\x00" + zeros(34):                          api.ErrCut,
		h + "\x00\x00" + zeros(36):                          api.ErrRest,
		h + number(1001):                                    api.ErrOver, // transactions
		h + number(1000) + zeros(999):                       api.ErrCut,
		h + number(1000) + zeros(1000):                      api.ErrCut,  // they are longer than a byte
		h + "\x00" + "\x11":                                 api.ErrOver, // evidence
		h + "\x00" + "\x10":                                 api.ErrCut,
		h + "\x00\x00" + "\x01\x00" + i + "\x41":            api.ErrOver, // marks
		h + "\x00\x00" + "\x01\x00" + i + "\x00":            api.ErrField,
		"\x00" + h[2:] + "\x00\x00" + zeros(35):             api.ErrField, // no name
		"\x11" + zeros(16) + h[1:] + "\x00\x00" + zeros(35): api.ErrOver,  // a name of 17
		h + "\x01" + zeros(22) + "\x00" + zeros(35):         api.ErrKind,  // a transaction of kind 0
		h + "\x01" + zeros(22) + "\x00" + zeros(36):         api.ErrRest,
		h + "\x00\x00" + zeros(api.MaxBlock-len(h)-2):       api.ErrRest,
		h + "\x00\x00" + zeros(api.MaxBlock-len(h)-1):       api.ErrBig,
		h + number(1001) + zeros(api.MaxBlock):              api.ErrBig,
		h + "\x00\x00" + "\x01\x00" + string(make([]byte, 31)) + "\x01" + "\x02\x01\x00" + zeros(16) + "\x01\x00" + zeros(16): api.ErrOrder,
	} {
		wantRefused(t, "W12, DecodeBlock of "+head(b), wire.DecodeBlock, b, want)
	}
	wantRefused(t, "W12, a vote of kind 3", wire.DecodeVote, "\x03"+voteForm(goodVote())[1:], api.ErrKind)
	wantRefused(t, "W12, a vote of kind 3 and a byte", wire.DecodeVote, "\x03"+voteForm(goodVote())[1:]+"\x00", api.ErrRest)
	wantRefused(t, "W12, a vote of kind 3, cut", wire.DecodeVote, "\x03"+voteForm(goodVote())[1:20], api.ErrCut)
	wantRefused(t, "W12, a vote of round 2^32", wire.DecodeVote, "\x01\x01"+number(1<<32)+i+"\x00\x03"+zeros(16), api.ErrField)
	wantRefused(t, "W12, a proposal of round 2^32", wire.DecodeProposal, "\x01"+number(1<<32)+"\x00\x01"+i[1:]+"\x03"+zeros(16), api.ErrField)
	wantRefused(t, "W12, valid in 2^32 - 1", wire.DecodeProposal, "\x01\x05"+number(1<<32)+"\x01"+i[1:]+"\x03"+zeros(16), api.ErrField)
	wantRefused(t, "W12, valid in 2^64 - 2", wire.DecodeProposal, "\x01\x05"+number(^uint64(0))+"\x01"+i[1:]+"\x03"+zeros(16), api.ErrField)
	wantRefused(t, "W12, an index of 2^32 + 1", wire.DecodeCert, "\x01\x05\x01"+i[1:]+"\x01"+number(1<<32+1)+"\x00"+zeros(16), api.ErrField)
	wantRefused(t, "W12, a certificate of round 2^32", wire.DecodeCert, "\x01"+number(1<<32)+"\x01"+i[1:]+"\x00", api.ErrField)
	wantRefused(t, "W12, a header whose name is too long", wire.DecodeHeader, "\x11"+zeros(17)+h[2:], api.ErrOver)
	wantRefused(t, "W12, a long rest", wire.DecodeTx, txForm(goodTx())+zeros(api.MaxRecord), api.ErrRest)
	wantRefused(t, "W12, evidence of one vote", wire.DecodeEvidence, voteForm(goodVote()), api.ErrCut)
	wantRefused(t, "W12, evidence of one vote twice", wire.DecodeEvidence, voteForm(goodVote())+voteForm(goodVote()), api.ErrOrder)
}

// TestBounds: no plain thing has a longer form, and one that fills its fields to the brim is read back.
func TestBounds(t *testing.T) {
	full := ^uint64(0)
	tx := api.Tx{Kind: api.TxPay, From: api.Addr(full), To: api.Addr(full), Amount: api.MaxSupply, Fee: api.MaxSupply, Nonce: full}
	vote := api.Vote{Kind: api.Precommit, Height: api.MaxHeight, Round: api.MaxRound, Id: id(1), Time: api.MaxTime, From: api.Addr(full)}
	prevote := vote
	prevote.Kind, prevote.Time = api.Prevote, 0
	piece := api.Evidence{A: vote, B: vote}
	piece.B.Id = id(2)
	cert := api.Cert{Height: api.MaxHeight, Round: api.MaxRound, Id: id(3)}
	for k := range api.MaxSeats {
		cert.Marks = append(cert.Marks, api.Mark{Index: k, Time: api.MaxTime, Seal: mark(1)})
	}
	h := goodHeader()
	h.Chain, h.Height, h.Time, h.Proposer = strings.Repeat("c", api.MaxChain), api.MaxHeight, api.MaxTime, api.Addr(full)
	block := api.Block{Header: h, Last: cert}
	for range api.MaxTxs {
		block.Txs = append(block.Txs, tx)
	}
	for range api.MaxEvidence {
		block.Evidence = append(block.Evidence, piece)
	}
	var votes []api.Vote
	for k := range api.MaxSeats {
		v := vote
		v.From -= api.Addr(api.MaxSeats - k)
		votes = append(votes, v)
	}
	p := api.Proposal{Height: api.MaxHeight, Round: api.MaxRound, ValidRound: api.MaxRound - 1, Id: id(1), From: api.Addr(full)}
	wantAtMost(t, "P4.5, Tx", wire.EncodeTx, wire.DecodeTx, tx, 67)
	wantAtMost(t, "P4.5, Vote", wire.EncodeVote, wire.DecodeVote, vote, 83)
	wantAtMost(t, "P4.5, prevote", wire.EncodeVote, wire.DecodeVote, prevote, 83)
	wantAtMost(t, "P4.5, Evidence", wire.EncodeEvidence, wire.DecodeEvidence, piece, 166)
	wantAtMost(t, "P4.5, 64 marks", wire.EncodeCert, wire.DecodeCert, cert, 64*30+50)
	wantAtMost(t, "P4.5, Header", wire.EncodeHeader, wire.DecodeHeader, h, 350)
	wantAtMost(t, "P4.5, Block", wire.EncodeBlock, wire.DecodeBlock, block, api.MaxBlock)
	proposal := wantAtMost(t, "P4.5, MsgProposal", wire.EncodeMsg, wire.DecodeMsg, api.Msg{Kind: api.MsgProposal, Proposal: p, Block: block, Votes: votes}, api.MaxMsg)
	polka := wantAtMost(t, "P4.5, MsgPolka", wire.EncodeMsg, wire.DecodeMsg, api.Msg{Kind: api.MsgPolka, Block: block, Votes: votes}, api.MaxMsg)
	wantAtMost(t, "P4.5, MsgDecision", wire.EncodeMsg, wire.DecodeMsg, api.Msg{Kind: api.MsgDecision, Block: block, Cert: cert}, api.MaxMsg)
	wantAtMost(t, "P4.5, InProposal", wire.EncodeInput, wire.DecodeInput, api.Input{Kind: api.InProposal, Now: api.MaxTime, Proposal: p, Block: block, Votes: votes, Good: true}, proposal+64)
	wantAtMost(t, "P4.5, InPolka", wire.EncodeInput, wire.DecodeInput, api.Input{Kind: api.InPolka, Now: api.MaxTime, Block: block, Votes: votes, Good: true}, polka+64)
}

func wantAtMost[T any](t *testing.T, what string, encode func(T) ([]byte, api.Errno), decode func([]byte) (T, api.Errno), x T, most int) int {
	t.Helper()
	b, e := encode(x)
	if e != api.OK || len(b) > most {
		t.Errorf("%s: %d bytes, error %d, want at most %d", what, len(b), e, most)
	}
	wantForm(t, what, encode, decode, x, string(b))
	return len(b)
}
