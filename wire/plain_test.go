package wire_test

import (
	"math"
	"slices"
	"strings"
	"testing"

	"assent/api"
	"assent/wire"
)

func TestPlainTx(t *testing.T) {
	with := func(change func(*api.Tx)) api.Tx { return changed(goodTx(), change) }
	wantErrs(t, "W1", wire.PlainTx, wire.EncodeTx, []trial[api.Tx]{
		{"a payment", goodTx(), api.OK},
		{"example 1", api.Tx{Kind: 1, From: 5, To: 7, Amount: 300, Fee: 1}, api.OK},
		{"example 1, to nobody", api.Tx{Kind: 1, From: 5, Amount: 300, Fee: 1}, api.ErrField},
		{"example 1, kind 9 from nobody", api.Tx{Kind: 9, To: 7, Amount: 300, Fee: 1}, api.ErrKind},
		{"free with an amount", api.Tx{Kind: api.TxFree, From: 1, Amount: 1}, api.ErrField},
		{"free", api.Tx{Kind: api.TxFree, From: 1}, api.OK},
		{"free to somebody", api.Tx{Kind: api.TxFree, From: 1, To: 2}, api.ErrField},
		{"bond of 0", api.Tx{Kind: api.TxBond, From: 1}, api.OK},
		{"bond to somebody", api.Tx{Kind: api.TxBond, From: 1, To: 1}, api.ErrField},
		{"unbond", api.Tx{Kind: api.TxUnbond, From: 1, Amount: 1}, api.OK},
		{"unbond to somebody", api.Tx{Kind: api.TxUnbond, From: 1, To: 1}, api.ErrField},
		{"kind 0", with(func(x *api.Tx) { x.Kind = 0 }), api.ErrKind},
		{"kind 5", with(func(x *api.Tx) { x.Kind, x.To = 5, 0 }), api.ErrKind},
		{"kind 257: a byte would hold 1", with(func(x *api.Tx) { x.Kind = 257 }), api.ErrKind},
		{"the least kind", with(func(x *api.Tx) { x.Kind = math.MinInt }), api.ErrKind},
		{"from nobody", with(func(x *api.Tx) { x.From = 0 }), api.ErrField},
		{"the greatest addresses", with(func(x *api.Tx) { x.From, x.To = math.MaxUint64, math.MaxUint64 }), api.OK},
		{"to itself", with(func(x *api.Tx) { x.To = x.From }), api.OK},
		{"no amount", with(func(x *api.Tx) { x.Amount = 0 }), api.OK},
		{"the greatest amount", with(func(x *api.Tx) { x.Amount = api.MaxSupply }), api.OK},
		{"a greater one", with(func(x *api.Tx) { x.Amount = tooMuch }), api.ErrField},
		{"no fee", with(func(x *api.Tx) { x.Fee = 0 }), api.OK},
		{"the greatest fee", with(func(x *api.Tx) { x.Fee = api.MaxSupply }), api.OK},
		{"a greater one", with(func(x *api.Tx) { x.Fee = tooMuch }), api.ErrField},
		{"any nonce", with(func(x *api.Tx) { x.Nonce = math.MaxUint64 }), api.OK},
	})
}

func TestPlainVote(t *testing.T) {
	with := func(change func(*api.Vote)) api.Vote { return changed(goodVote(), change) }
	wantErrs(t, "W2", wire.PlainVote, wire.EncodeVote, []trial[api.Vote]{
		{"a precommit", goodVote(), api.OK},
		{"a prevote", prevoteOf(9), api.OK},
		{"example 2", api.Vote{Kind: 1, Height: 1, From: 3}, api.OK},
		{"example 2 with a time", api.Vote{Kind: 1, Height: 1, Time: 4, From: 3}, api.ErrField},
		{"a precommit for none with a time", api.Vote{Kind: 2, Height: 1, Time: 4, From: 3}, api.ErrField},
		{"a precommit for none", api.Vote{Kind: 2, Height: 1, From: 3}, api.OK},
		{"a precommit for a block with a time", api.Vote{Kind: 2, Height: 1, Id: id(1), Time: 4, From: 3}, api.OK},
		{"a prevote for a block with a time", api.Vote{Kind: 1, Height: 1, Id: id(1), Time: 4, From: 3}, api.ErrField},
		{"an id of one last byte", api.Vote{Kind: 2, Height: 1, Id: api.Hash{31: 1}, Time: 4, From: 3}, api.OK},
		{"kind 0, all else wrong too", api.Vote{Kind: 0, Round: -1}, api.ErrKind},
		{"kind 3", with(func(x *api.Vote) { x.Kind = 3 }), api.ErrKind},
		{"kind 258: a byte would hold 2", with(func(x *api.Vote) { x.Kind = 258 }), api.ErrKind},
		{"height 0", with(func(x *api.Vote) { x.Height = 0 }), api.ErrField},
		{"height 1", with(func(x *api.Vote) { x.Height = 1 }), api.OK},
		{"the greatest height", with(func(x *api.Vote) { x.Height = api.MaxHeight }), api.OK},
		{"a greater one", with(func(x *api.Vote) { x.Height = tooHigh }), api.ErrField},
		{"round -1", with(func(x *api.Vote) { x.Round = -1 }), api.ErrField},
		{"round 0", with(func(x *api.Vote) { x.Round = 0 }), api.OK},
		{"the greatest round", with(func(x *api.Vote) { x.Round = api.MaxRound }), api.OK},
		{"a greater one", with(func(x *api.Vote) { x.Round = tooFar }), api.ErrField},
		{"time 0", with(func(x *api.Vote) { x.Time = 0 }), api.OK},
		{"the greatest time", with(func(x *api.Vote) { x.Time = api.MaxTime }), api.OK},
		{"a greater one", with(func(x *api.Vote) { x.Time = tooLate }), api.ErrField},
		{"from nobody", with(func(x *api.Vote) { x.From = 0 }), api.ErrField},
	})
}

func TestPlainProposal(t *testing.T) {
	with := func(change func(*api.Proposal)) api.Proposal { return changed(goodProposal(), change) }
	wantErrs(t, "W3", wire.PlainProposal, wire.EncodeProposal, []trial[api.Proposal]{
		{"a proposal", goodProposal(), api.OK},
		{"example 3", api.Proposal{Height: 2, Round: 1, ValidRound: -1, Id: id(1), From: 9}, api.OK},
		{"example 3, valid in 0", api.Proposal{Height: 2, Round: 1, ValidRound: 0, Id: id(1), From: 9}, api.OK},
		{"example 3, valid in its round", api.Proposal{Height: 2, Round: 1, ValidRound: 1, Id: id(1), From: 9}, api.ErrField},
		{"valid behind its round", with(func(x *api.Proposal) { x.ValidRound = math.MaxInt }), api.ErrField},
		{"valid in -2", with(func(x *api.Proposal) { x.ValidRound = -2 }), api.ErrField},
		{"valid in the least", with(func(x *api.Proposal) { x.ValidRound = math.MinInt }), api.ErrField},
		{"round 0 with none", with(func(x *api.Proposal) { x.Round, x.ValidRound = 0, -1 }), api.OK},
		{"round 0 valid in 0", with(func(x *api.Proposal) { x.Round, x.ValidRound = 0, 0 }), api.ErrField},
		{"the greatest round", with(func(x *api.Proposal) { x.Round, x.ValidRound = api.MaxRound, api.MaxRound-1 }), api.OK},
		{"a greater one", with(func(x *api.Proposal) { x.Round = tooFar }), api.ErrField},
		{"round -1", with(func(x *api.Proposal) { x.Round, x.ValidRound = -1, -1 }), api.ErrField},
		{"round -1, valid ahead of it", with(func(x *api.Proposal) { x.Round, x.ValidRound = -1, -2 }), api.ErrField},
		{"height 0", with(func(x *api.Proposal) { x.Height = 0 }), api.ErrField},
		{"the greatest height", with(func(x *api.Proposal) { x.Height = api.MaxHeight }), api.OK},
		{"a greater one", with(func(x *api.Proposal) { x.Height = tooHigh }), api.ErrField},
		{"for none", with(func(x *api.Proposal) { x.Id = api.Hash{} }), api.ErrField},
		{"from nobody", with(func(x *api.Proposal) { x.From = 0 }), api.ErrField},
	})
}

func TestPlainCert(t *testing.T) {
	with := func(change func(*api.Cert)) api.Cert {
		return changed(api.Cert{Height: 3, Id: id(1), Marks: marks(3)}, change)
	}
	wantErrs(t, "W4", wire.PlainCert, wire.EncodeCert, []trial[api.Cert]{
		{"a certificate", goodCert(), api.OK},
		{"the zero one", api.Cert{}, api.OK},
		{"the zero one, an empty list", api.Cert{Marks: []api.Mark{}}, api.OK},
		{"the zero one with a mark", api.Cert{Marks: marks(1)}, api.ErrField},
		{"the zero one with a round", api.Cert{Round: 1}, api.ErrField},
		{"the zero one with an id", api.Cert{Id: id(1)}, api.ErrField},
		{"example 4: height 3 alone", api.Cert{Height: 3}, api.ErrField},
		{"no marks", with(func(x *api.Cert) { x.Marks = nil }), api.OK},
		{"height 0", with(func(x *api.Cert) { x.Height = 0 }), api.ErrField},
		{"the greatest height", with(func(x *api.Cert) { x.Height = api.MaxHeight }), api.OK},
		{"a greater one", with(func(x *api.Cert) { x.Height = tooHigh }), api.ErrField},
		{"round -1", with(func(x *api.Cert) { x.Round = -1 }), api.ErrField},
		{"the greatest round", with(func(x *api.Cert) { x.Round = api.MaxRound }), api.OK},
		{"a greater one", with(func(x *api.Cert) { x.Round = tooFar }), api.ErrField},
		{"no id", with(func(x *api.Cert) { x.Id = api.Hash{} }), api.ErrField},
		{"example 4: 64 marks", with(func(x *api.Cert) { x.Marks = marks(64) }), api.OK},
		{"example 4: 65 marks", with(func(x *api.Cert) { x.Marks = marks(65) }), api.ErrBig},
		{"65 marks and no id", with(func(x *api.Cert) { x.Marks, x.Id = marks(65), api.Hash{} }), api.ErrField},
		{"65 marks, the first of them wrong", with(func(x *api.Cert) { x.Marks = make([]api.Mark, 65); x.Marks[0].Index = -1 }), api.ErrBig},
		{"example 4: index 2, 2", with(func(x *api.Cert) { x.Marks = []api.Mark{{Index: 2}, {Index: 2}} }), api.ErrOrder},
		{"index 2, 1", with(func(x *api.Cert) { x.Marks = []api.Mark{{Index: 2}, {Index: 1}} }), api.ErrOrder},
		{"index 0, 0", with(func(x *api.Cert) { x.Marks = make([]api.Mark, 2) }), api.ErrOrder},
		{"index 63", with(func(x *api.Cert) { x.Marks = []api.Mark{{Index: 63}} }), api.OK},
		{"example 4: index 64", with(func(x *api.Cert) { x.Marks = []api.Mark{{Index: 64}} }), api.ErrField},
		{"index -1", with(func(x *api.Cert) { x.Marks[0].Index = -1 }), api.ErrField},
		{"the greatest time", with(func(x *api.Cert) { x.Marks[1].Time = api.MaxTime }), api.OK},
		{"a greater one", with(func(x *api.Cert) { x.Marks[1].Time = tooLate }), api.ErrField},
		{"a mark with a wrong time and order", with(func(x *api.Cert) { x.Marks[1] = api.Mark{Index: 0, Time: tooLate} }), api.ErrField},
		{"a wrong order ahead of a wrong index", with(func(x *api.Cert) { x.Marks[1].Index, x.Marks[2].Index = 0, 64 }), api.ErrOrder},
		{"a wrong index ahead of a wrong order", with(func(x *api.Cert) { x.Marks[0].Index, x.Marks[2].Index = 64, 0 }), api.ErrField},
	})
}

func TestPlainEvidence(t *testing.T) {
	with := func(change func(*api.Evidence)) api.Evidence { return changed(goodEvidence(), change) }
	wantErrs(t, "W5", wire.PlainEvidence, wire.EncodeEvidence, []trial[api.Evidence]{
		{"evidence", goodEvidence(), api.OK},
		{"the other way round", api.Evidence{A: goodEvidence().B, B: goodEvidence().A}, api.ErrOrder},
		{"one id, unlike times", with(func(x *api.Evidence) { x.B.Id = x.A.Id }), api.ErrOrder},
		{"A for none", with(func(x *api.Evidence) { x.A.Id, x.A.Time = api.Hash{}, 0 }), api.OK},
		{"B for none", with(func(x *api.Evidence) { x.B.Id, x.B.Time = api.Hash{}, 0 }), api.ErrOrder},
		{"the ids differ in the last byte", with(func(x *api.Evidence) { x.A.Id, x.B.Id = api.Hash{31: 1}, api.Hash{31: 2} }), api.OK},
		{"the first byte counts most", with(func(x *api.Evidence) { x.A.Id, x.B.Id = api.Hash{0: 1, 31: 9}, api.Hash{0: 2, 31: 1} }), api.OK},
		{"bytes have no sign", with(func(x *api.Evidence) { x.A.Id, x.B.Id = api.Hash{127}, api.Hash{128} }), api.OK},
		{"unlike kinds", with(func(x *api.Evidence) { x.B.Kind, x.B.Time = api.Prevote, 0 }), api.ErrField},
		{"unlike heights", with(func(x *api.Evidence) { x.B.Height++ }), api.ErrField},
		{"unlike rounds", with(func(x *api.Evidence) { x.B.Round++ }), api.ErrField},
		{"unlike members", with(func(x *api.Evidence) { x.B.From++ }), api.ErrField},
		{"unlike rounds, the other way round", with(func(x *api.Evidence) { x.A, x.B = x.B, x.A; x.B.Round++ }), api.ErrField},
		{"A of no kind, B with no field right", with(func(x *api.Evidence) { x.A.Kind, x.B.Height = 3, 0 }), api.ErrKind},
		{"A with a wrong field, B of no kind", with(func(x *api.Evidence) { x.A.Height, x.B.Kind = 0, 3 }), api.ErrField},
		{"B of no kind", with(func(x *api.Evidence) { x.B.Kind = 3 }), api.ErrKind},
		{"both not plain, alike", with(func(x *api.Evidence) { x.A.From, x.B.From = 0, 0 }), api.ErrField},
	})
}

func TestPlainHeader(t *testing.T) {
	with := func(change func(*api.Header)) api.Header { return changed(goodHeader(), change) }
	wantErrs(t, "W6", wire.PlainHeader, wire.EncodeHeader, []trial[api.Header]{
		{"a header", goodHeader(), api.OK},
		{"all hashes zero", api.Header{Chain: "c", Height: 1, Proposer: 1}, api.OK},
		{"no name", with(func(x *api.Header) { x.Chain = "" }), api.ErrField},
		{"a name of a zero byte", with(func(x *api.Header) { x.Chain = "\x00" }), api.OK},
		{"a name of 16", with(func(x *api.Header) { x.Chain = strings.Repeat("é", 8) }), api.OK},
		{"a name of 17", with(func(x *api.Header) { x.Chain = strings.Repeat("a", 17) }), api.ErrField},
		{"a name of 9 runes and 18 bytes", with(func(x *api.Header) { x.Chain = strings.Repeat("é", 9) }), api.ErrField},
		{"height 0", with(func(x *api.Header) { x.Height = 0 }), api.ErrField},
		{"height 1", with(func(x *api.Header) { x.Height = 1 }), api.OK},
		{"the greatest height", with(func(x *api.Header) { x.Height = api.MaxHeight }), api.OK},
		{"a greater one", with(func(x *api.Header) { x.Height = tooHigh }), api.ErrField},
		{"time 0", with(func(x *api.Header) { x.Time = 0 }), api.OK},
		{"the greatest time", with(func(x *api.Header) { x.Time = api.MaxTime }), api.OK},
		{"a greater one", with(func(x *api.Header) { x.Time = tooLate }), api.ErrField},
		{"proposed by nobody", with(func(x *api.Header) { x.Proposer = 0 }), api.ErrField},
	})
}

func TestPlainBlock(t *testing.T) {
	with := func(change func(*api.Block)) api.Block { return changed(goodBlock(), change) }
	txs := func(n int) []api.Tx { return slices.Repeat([]api.Tx{goodTx()}, n) }
	evidence := func(n int) []api.Evidence { return slices.Repeat([]api.Evidence{goodEvidence()}, n) }
	noKind, noField := api.Tx{Kind: 9}, api.Tx{Kind: api.TxPay}
	twisted := api.Evidence{A: goodEvidence().B, B: goodEvidence().A}
	wantErrs(t, "W7", wire.PlainBlock, wire.EncodeBlock, []trial[api.Block]{
		{"a block", goodBlock(), api.OK},
		{"a bare one", bareBlock(), api.OK},
		{"the zero one", api.Block{}, api.ErrField},
		{"a wrong header and too many transactions", with(func(x *api.Block) { x.Header.Height, x.Txs = 0, txs(1001) }), api.ErrField},
		{"1000 transactions", with(func(x *api.Block) { x.Txs = txs(1000) }), api.OK},
		{"1001", with(func(x *api.Block) { x.Txs = txs(1001) }), api.ErrBig},
		{"1001, the first of no kind", with(func(x *api.Block) { x.Txs = txs(1001); x.Txs[0] = noKind }), api.ErrBig},
		{"a transaction of no kind ahead of one with a wrong field", with(func(x *api.Block) { x.Txs = []api.Tx{goodTx(), noKind, noField} }), api.ErrKind},
		{"the other way round", with(func(x *api.Block) { x.Txs = []api.Tx{goodTx(), noField, noKind} }), api.ErrField},
		{"a wrong transaction ahead of too much evidence", with(func(x *api.Block) { x.Txs, x.Evidence = []api.Tx{noKind}, evidence(17) }), api.ErrKind},
		{"16 pieces of evidence", with(func(x *api.Block) { x.Evidence = evidence(16) }), api.OK},
		{"17", with(func(x *api.Block) { x.Evidence = evidence(17) }), api.ErrBig},
		{"17, the first the wrong way round", with(func(x *api.Block) { x.Evidence = evidence(17); x.Evidence[0] = twisted }), api.ErrBig},
		{"evidence the wrong way round", with(func(x *api.Block) { x.Evidence = append(evidence(1), twisted, api.Evidence{}) }), api.ErrOrder},
		{"evidence of no kind ahead of it", with(func(x *api.Block) { x.Evidence = append(evidence(1), api.Evidence{}, twisted) }), api.ErrKind},
		{"wrong evidence ahead of a wrong certificate", with(func(x *api.Block) { x.Evidence, x.Last = []api.Evidence{twisted}, api.Cert{Height: 3} }), api.ErrOrder},
		{"a certificate with no id", with(func(x *api.Block) { x.Last = api.Cert{Height: 3} }), api.ErrField},
		{"one of 65 marks", with(func(x *api.Block) { x.Last.Marks = marks(65) }), api.ErrBig},
	})
}
