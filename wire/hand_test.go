package wire_test

import (
	"encoding/binary"
	"fmt"
	"reflect"
	"strings"
	"testing"

	"assent/api"
	"assent/wire"
)

const (
	tooHigh = api.MaxHeight + 1
	tooLate = api.MaxTime + 1
	tooMuch = api.MaxSupply + 1
	tooFar  = api.MaxRound + 1
)

// The forms by another hand: texts, put together by +.

func zeros(n int) string { return strings.Repeat("\x00", n) }

func number[N ~int | ~uint64](n N) string {
	return string(binary.AppendUvarint(nil, uint64(n)))
}

func list(forms ...string) string { return number(len(forms)) + strings.Join(forms, "") }

func text(s string) string { return number(len(s)) + s }

func txBody(x api.Tx) string {
	return string(byte(x.Kind)) + number(x.From) + number(x.To) + number(x.Amount) + number(x.Fee) + number(x.Nonce)
}

func txForm(x api.Tx) string { return txBody(x) + string(x.Seal[:]) }

func voteBody(x api.Vote) string {
	return string(byte(x.Kind)) + number(x.Height) + number(x.Round) + string(x.Id[:]) + number(x.Time) + number(x.From)
}

func voteForm(x api.Vote) string { return voteBody(x) + string(x.Seal[:]) }

func proposalBody(x api.Proposal) string {
	return number(x.Height) + number(x.Round) + number(x.ValidRound+1) + string(x.Id[:]) + number(x.From)
}

func proposalForm(x api.Proposal) string { return proposalBody(x) + string(x.Seal[:]) }

func markForm(x api.Mark) string { return number(x.Index) + number(x.Time) + string(x.Seal[:]) }

func certForm(x api.Cert) string {
	return number(x.Height) + number(x.Round) + string(x.Id[:]) + listForm(x.Marks, markForm)
}

func evidenceForm(x api.Evidence) string { return voteForm(x.A) + voteForm(x.B) }

func headerForm(x api.Header) string {
	hashes := string(x.Last[:]) + string(x.Cert[:]) + string(x.Txs[:]) + string(x.Evidence[:]) + string(x.Council[:]) + string(x.Next[:]) + string(x.State[:])
	return text(x.Chain) + number(x.Height) + number(x.Time) + hashes + number(x.Proposer)
}

func blockForm(x api.Block) string {
	return headerForm(x.Header) + listForm(x.Txs, txForm) + listForm(x.Evidence, evidenceForm) + certForm(x.Last)
}

func listForm[T any](l []T, form func(T) string) string {
	var forms []string
	for _, x := range l {
		forms = append(forms, form(x))
	}
	return list(forms...)
}

// Things that are plain, with no field zero that may be another, and no two alike.

func id(k byte) (h api.Hash) {
	for i := range h {
		h[i] = k + byte(i)
	}
	return h
}

func mark(k byte) (s api.Seal) {
	for i := range s {
		s[i] = k ^ byte(16*i)
	}
	return s
}

func goodTx() api.Tx {
	return api.Tx{Kind: api.TxPay, From: 300, To: 7, Amount: 1 << 40, Fee: 129, Nonce: 1 << 63, Seal: mark(1)}
}

func goodVote() api.Vote {
	return api.Vote{Kind: api.Precommit, Height: 500, Round: 130, Id: id(9), Time: 1 << 30, From: 77, Seal: mark(2)}
}

// prevoteOf is a vote as it stands in lists.
func prevoteOf(from api.Addr) api.Vote {
	return api.Vote{Kind: api.Prevote, Height: 6, Round: 2, Id: id(5), From: from, Seal: mark(byte(from))}
}

func prevotes(n int) []api.Vote {
	var l []api.Vote
	for k := range n {
		l = append(l, prevoteOf(api.Addr(200+k)))
	}
	return l
}

func goodProposal() api.Proposal {
	return api.Proposal{Height: 1000, Round: 200, ValidRound: 128, Id: id(4), From: 88, Seal: mark(3)}
}

func goodCert() api.Cert {
	return api.Cert{Height: 499, Round: 3, Id: id(6), Marks: []api.Mark{{Index: 0, Time: 700, Seal: mark(4)}, {Index: 63, Seal: mark(5)}}}
}

func marks(n int) []api.Mark {
	var l []api.Mark
	for k := range n {
		l = append(l, api.Mark{Index: k, Time: uint64(1000 + k), Seal: mark(byte(k))})
	}
	return l
}

func goodEvidence() api.Evidence {
	e := api.Evidence{A: goodVote(), B: goodVote()}
	e.B.Id, e.B.Time, e.B.Seal = id(10), 5, mark(6)
	return e
}

func goodHeader() api.Header {
	return api.Header{Chain: "chain", Height: 400, Time: 1 << 20, Last: id(20), Cert: id(21), Txs: id(22), Evidence: id(23), Council: id(24), Next: id(25), State: id(26), Proposer: 500}
}

func goodBlock() api.Block {
	other := goodTx()
	other.Kind, other.To = api.TxBond, 0
	return api.Block{Header: goodHeader(), Txs: []api.Tx{goodTx(), other}, Evidence: []api.Evidence{goodEvidence()}, Last: goodCert()}
}

// bareBlock has no lists.
func bareBlock() api.Block {
	return api.Block{Header: api.Header{Chain: "c", Height: 1, Time: 3, Proposer: 2}}
}

func freshProposal() api.Proposal {
	p := goodProposal()
	p.ValidRound = -1
	return p
}

// changed is a thing with something done to it.
func changed[T any](x T, change func(*T)) T {
	change(&x)
	return x
}

// trial is a thing, and what is to be said of it.
type trial[T any] struct {
	what string
	x    T
	want api.Errno
}

// wantErrs holds PlainK and EncodeK against what is to be said, and what EncodeK refuses has no bytes.
func wantErrs[T any](t *testing.T, promise string, plain func(T) api.Errno, encode func(T) ([]byte, api.Errno), trials []trial[T]) {
	t.Helper()
	for _, c := range trials {
		if e := plain(c.x); e != c.want {
			t.Errorf("%s: plain, %s: error %d, want %d", promise, c.what, e, c.want)
		}
		b, e := encode(c.x)
		if e != c.want {
			t.Errorf("%s: encode, %s: error %d, want %d", promise, c.what, e, c.want)
		}
		if (e != api.OK) != (b == nil) {
			t.Errorf("%s: encode, %s: %d bytes, error %d", promise, c.what, len(b), e)
		}
	}
}

// wantForm holds EncodeK against a form by hand, and DecodeK of it against the thing.
func wantForm[T any](t *testing.T, what string, encode func(T) ([]byte, api.Errno), decode func([]byte) (T, api.Errno), x T, want string) {
	t.Helper()
	b, e := encode(x)
	if e != api.OK || string(b) != want {
		t.Errorf("%s: encode: % x, error %d, want % x", what, b, e, want)
	}
	y, e := decode([]byte(want))
	if e != api.OK || !reflect.DeepEqual(y, x) {
		t.Errorf("%s: decode: %+v, error %d, want %+v", what, y, e, x)
	}
}

// wantRefused: DecodeK refuses the bytes, and answers nothing beside.
func wantRefused[T any](t *testing.T, what string, decode func([]byte) (T, api.Errno), b string, want api.Errno) {
	t.Helper()
	x, e := decode([]byte(b))
	if e != want {
		t.Errorf("%s: error %d, want %d", what, e, want)
	}
	var none T
	if !reflect.DeepEqual(x, none) {
		t.Errorf("%s: beside the error %d: %+v", what, e, x)
	}
}

// calls are the three calls of a kind, over any.
type calls struct {
	name   string
	plain  func(any) api.Errno
	encode func(any) ([]byte, api.Errno)
	decode func([]byte) (any, api.Errno)
	goods  []any // things that are plain
}

func callsOf[T any](plain func(T) api.Errno, encode func(T) ([]byte, api.Errno), decode func([]byte) (T, api.Errno), goods ...T) calls {
	c := calls{
		name:   fmt.Sprintf("%T", *new(T)),
		plain:  func(x any) api.Errno { return plain(x.(T)) },
		encode: func(x any) ([]byte, api.Errno) { return encode(x.(T)) },
		decode: func(b []byte) (any, api.Errno) { return decode(b) },
	}
	for _, x := range goods {
		c.goods = append(c.goods, x)
	}
	return c
}

// allCalls are all kinds; a State's plain is EncodeState's error.
func allCalls() []calls {
	plainState := func(x api.State) api.Errno {
		_, e := wire.EncodeState(x)
		return e
	}
	return []calls{
		callsOf(wire.PlainTx, wire.EncodeTx, wire.DecodeTx, goodTx(), api.Tx{Kind: api.TxFree, From: 1}),
		callsOf(wire.PlainVote, wire.EncodeVote, wire.DecodeVote, goodVote(), prevoteOf(1), api.Vote{Kind: 1, Height: 1, From: 3}),
		callsOf(wire.PlainProposal, wire.EncodeProposal, wire.DecodeProposal, goodProposal(), freshProposal()),
		callsOf(wire.PlainCert, wire.EncodeCert, wire.DecodeCert, goodCert(), api.Cert{}, api.Cert{Height: 1, Id: id(1)}),
		callsOf(wire.PlainEvidence, wire.EncodeEvidence, wire.DecodeEvidence, goodEvidence()),
		callsOf(wire.PlainHeader, wire.EncodeHeader, wire.DecodeHeader, goodHeader(), bareBlock().Header),
		callsOf(wire.PlainBlock, wire.EncodeBlock, wire.DecodeBlock, goodBlock(), bareBlock()),
		callsOf(wire.PlainMsg, wire.EncodeMsg, wire.DecodeMsg, goodMsgs()...),
		callsOf(wire.PlainInput, wire.EncodeInput, wire.DecodeInput, goodInputs()...),
		callsOf(plainState, wire.EncodeState, wire.DecodeState, goodState(), api.State{Chain: "c", Params: api.Params{Seats: 1}}),
	}
}
