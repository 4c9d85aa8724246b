package cluster_test

import (
	"bytes"
	"math"
	"reflect"
	"slices"
	"testing"

	"assent/api"
	"assent/chain"
	"assent/ledger"
	"assent/wire"
)

// pays is a payment of 1 by an address.
func pays(from api.Addr, nonce uint64) api.Tx {
	return api.Tx{Kind: api.TxPay, From: from, To: 50, Amount: 1, Fee: 1, Nonce: nonce}
}

func txBytes(x api.Tx) []byte {
	msg, _ := wire.TxBytes(name, x)
	return msg
}

func TestSubmit(t *testing.T) {
	g := genesis(10, 10, 10, 10, 0)
	w := beginWith(t, g, upTo(4), 1)
	r := w.c.Registry()
	x := pays(5, 0)
	x.Seal[3] = 9 // whatever stands there, it is written over
	w.is("C6", w.c.Submit(1, x), api.OK)
	if !r.Known(5) || !slices.EqualFunc(w.c.Signed(5), [][]byte{txBytes(x)}, bytes.Equal) {
		t.Errorf("C6: %d is not entered, or has signed %d", 5, len(w.c.Signed(5)))
	}
	x.Seal = sealOf(5, txBytes(x))
	if txs, _ := w.c.Pool(1); !slices.Equal(txs, []api.Tx{x}) {
		t.Errorf("C6: %v wait", txs)
	}
	if got := w.way(); len(got) != 2 || got[0].from != 1 || got[0].to != 0 || got[1].to != 2 || got[0].m.Tx != x || got[1].m.Tx != x {
		t.Errorf("C6: %v are under way", got)
	}
	w.rounds(20)
	if w.account(0, 50).Balance != 1 || w.account(0, 5).Nonce != 1 || w.account(0, 5).Balance != 98 {
		t.Errorf("C6: %+v, %+v", w.account(0, 50), w.account(0, 5))
	}
	// Of those who run the machines, and of liars, too.
	w.is("C6", w.c.Submit(0, pays(1, 0)), api.OK)
	w.is("C6", w.c.Submit(0, pays(4, 0)), api.OK)
	w.rounds(30)
	if w.account(2, 50).Balance != 3 {
		t.Errorf("C6: %+v", w.account(2, 50))
	}
}

// TestSubmitRefused: what is refused ahead of signing leaves the book as it was; what the node refuses has been signed.
func TestSubmitRefused(t *testing.T) {
	w := begin(t, four(), 1)
	r := w.c.Registry()
	bad := api.Tx{Kind: 9, From: 6}
	for _, node := range []int{math.MinInt, -1, 3, 4, math.MaxInt} {
		w.is("C6", w.c.Submit(node, bad), api.ErrNode)
		w.is("C6", w.c.Submit(node, pays(6, 0)), api.ErrNode)
	}
	for _, x := range []api.Tx{{}, bad, {Kind: api.TxPay, To: 1}, {Kind: api.TxPay, From: 6}, {Kind: api.TxFree, From: 6, Amount: 1}, {Kind: api.TxBond, From: 6, Amount: math.MaxUint64}, {Kind: api.TxBond, From: 6, Fee: api.MaxSupply + 1}} {
		_, want := wire.TxBytes(name, x)
		if want == api.OK {
			t.Fatalf("%+v is plain", x)
		}
		w.is("C6", w.c.Submit(0, x), want)
	}
	if r.Known(6) || r.Known(0) || r.Count() != 0 {
		t.Errorf("C6: somebody is entered, or has signed")
	}
	w.is("C6: the node's answer", w.c.Submit(0, pays(6, 0)), api.ErrNobody)
	if !r.Known(6) || len(w.c.Signed(6)) != 1 {
		t.Errorf("C6: what was entered and signed stays so")
	}
	w.is("C6", w.c.Submit(0, pays(1, 99)), api.ErrFar)
	w.is("C6", w.c.Submit(0, pays(1, 0)), api.OK)
	w.is("C6: it is entered but once", w.c.Submit(0, pays(1, 0)), api.ErrKnown)
	w.is("C6", w.c.Submit(0, api.Tx{Kind: api.TxPay, From: 2, To: 1, Amount: 101}), api.ErrPoor)
	if len(w.c.Signed(1)) != 2 || len(w.c.Signed(2)) != 1 || w.c.Pending() != 2 {
		t.Errorf("C6: %d, %d are signed, %d under way", len(w.c.Signed(1)), len(w.c.Signed(2)), w.c.Pending())
	}
	w.is("C5", w.c.Arm(0, api.Trouble{At: 1, Kind: api.TrFault}), api.OK)
	w.tick(0, 2)
	w.is("C6: of a dead node", w.c.Submit(0, pays(1, 1)), api.ErrDead)
	w.is("C6: of a dead node: bytes come first", w.c.Submit(0, bad), api.ErrKind)
	if len(w.c.Signed(1)) != 3 {
		t.Errorf("C6: %d are signed", len(w.c.Signed(1)))
	}
}

// TestSubmitOthers: of an address that others have entered the cluster has no signer.
func TestSubmitOthers(t *testing.T) {
	w := beginWith(t, genesis(10, 10, 10, 10, 0), upTo(4), 1)
	s, e := w.c.Registry().Enter(5)
	w.is("Enter", e, api.OK)
	w.is("C6", w.c.Submit(0, pays(5, 0)), api.ErrNil)
	w.is("C6: once more", w.c.Submit(0, pays(5, 0)), api.ErrNil)
	w.is("C6: no such node", w.c.Submit(3, pays(5, 0)), api.ErrNode)
	w.is("C6: no bytes", w.c.Submit(0, api.Tx{Kind: api.TxPay, From: 5}), api.ErrField)
	if len(w.c.Signed(5)) != 0 || w.c.Pending() != 0 {
		t.Errorf("C6: %d are signed", len(w.c.Signed(5)))
	}
	// Even when its owner has signed: it is the cluster that has no signer.
	_, e = s.Sign(txBytes(pays(5, 0)))
	w.is("Sign", e, api.OK)
	w.is("C6", w.c.Submit(0, pays(5, 0)), api.ErrNil)
}

func TestLieRefused(t *testing.T) {
	w := begin(t, genesis(10, 10, 10, 10, 10, 10, 10), 2)
	v := voted(api.Vote{Kind: api.Prevote, Height: 1, From: 6})
	for _, liar := range places {
		for _, to := range places {
			for _, m := range []api.Msg{v, {}} {
				want := api.OK
				switch {
				case liar != 5 && liar != 6:
					want = api.ErrActor
				case to < -1 || to > 4:
					want = api.ErrNode
				case m.Kind == 0:
					want = api.ErrKind
				}
				if got := w.c.Lie(liar, to, m); got != want {
					t.Errorf("C7: %d to %d: error %d, want %d", liar, to, got, want)
				}
			}
		}
	}
}

// TestLieTo: a lie is under way from the liar's place, to one node or to all honest ones by rising place.
func TestLieTo(t *testing.T) {
	w := begin(t, genesis(10, 10, 10, 10, 10), 2)
	w.is("C7", w.c.Lie(4, 1, status(3)), api.OK)
	w.is("C7", w.c.Lie(3, -1, status(2)), api.OK)
	w.is("C7", w.c.Lie(4, 2, status(1)), api.OK)
	want := []message{{4, 1, status(3)}, {3, 0, status(2)}, {3, 1, status(2)}, {3, 2, status(2)}, {4, 2, status(1)}}
	if got := w.way(); !reflect.DeepEqual(got, want) {
		t.Errorf("C7: %v", got)
	}
}

// TestLieSeals: what comes from the liar and has no seal is sealed with its signer; all else is sent as it stands.
func TestLieSeals(t *testing.T) {
	w := begin(t, four(), 1)
	own := api.Vote{Kind: api.Prevote, Height: 1, From: 4}
	other, done := own, own
	other.From = 1
	done.Round, done.Seal = 1, api.Seal{7}
	for _, x := range []struct{ v, want api.Vote }{{own, sealed(own)}, {other, other}, {done, done}} {
		w.clear()
		w.is("C7", w.c.Lie(3, 0, voted(x.v)), api.OK)
		if got := w.way()[0].m.Votes[0]; got != x.want {
			t.Errorf("C7: %+v, want %+v", got, x.want)
		}
	}
	if got := w.c.Signed(4); len(got) != 1 || len(w.c.Signed(1)) != 0 {
		t.Errorf("C7: %d are signed", len(got))
	}
	w.is("C7: a seal that is there already is the same", w.c.Lie(3, 0, voted(sealed(own))), api.OK)

	b, _ := chain.Make(w.state(0), w.c.Registry(), nil, nil, api.Cert{}, 4)
	q := api.Proposal{Height: 1, Round: 3, ValidRound: 1, Id: idOf(b), From: 4}
	msg, _ := wire.ProposalBytes(name, q)
	votes := []api.Vote{{Kind: api.Prevote, Height: 1, Round: 1, Id: q.Id, From: 2}, {Kind: api.Prevote, Height: 1, Round: 1, Id: q.Id, From: 4}}
	m := api.Msg{Kind: api.MsgProposal, Proposal: q, Block: b, Votes: slices.Clone(votes)}
	w.clear()
	w.is("C7", w.c.Lie(3, 0, m), api.OK)
	got := w.way()[0].m
	if got.Proposal.Seal != sealOf(4, msg) || got.Votes[0] != votes[0] || got.Votes[1] != sealed(votes[1]) || !slices.Equal(m.Votes, votes) {
		t.Errorf("C7: %+v", got)
	}
	if all := w.c.Signed(4); len(all) != 3 || !bytes.Equal(all[2], msg) { // its vote comes ahead of it
		t.Errorf("C7: %d are signed", len(all))
	}
	q.From, q.Round = 3, 2 // another one's proposal stays without a seal
	w.is("C7", w.c.Lie(3, 0, api.Msg{Kind: api.MsgProposal, Proposal: q, Block: b, Votes: votes[:1]}), api.OK)
	if got := w.way()[1].m.Proposal; got != q || len(w.c.Signed(3)) != 0 {
		t.Errorf("C7: %+v", got)
	}
	q.From, q.Seal = 4, api.Seal{1}
	w.is("C7", w.c.Lie(3, 0, api.Msg{Kind: api.MsgProposal, Proposal: q, Block: b, Votes: votes[:1]}), api.OK)
	if got := w.way()[2].m.Proposal; got != q || len(w.c.Signed(4)) != 3 {
		t.Errorf("C7: %+v", got)
	}
}

// TestLieMore: transactions and evidence are sealed likewise, and the votes of a polka.
func TestLieMore(t *testing.T) {
	w := begin(t, four(), 1)
	for _, x := range []api.Tx{pays(4, 0), pays(1, 0), {Kind: api.TxFree, From: 4, Seal: api.Seal{5}}} {
		w.clear()
		w.is("C7", w.c.Lie(3, 0, api.Msg{Kind: api.MsgTx, Tx: x}), api.OK)
		want := x
		if x == pays(4, 0) {
			want.Seal = sealOf(4, txBytes(x))
		}
		if got := w.way()[0].m.Tx; got != want {
			t.Errorf("C7: %+v, want %+v", got, want)
		}
	}
	if len(w.c.Signed(4)) != 1 || len(w.c.Signed(1)) != 0 {
		t.Errorf("C7: %d are signed", len(w.c.Signed(4)))
	}
	for k := range 4 { // either vote may have a seal already
		m := proof(uint64(5+k), 4)
		want := api.Evidence{A: sealed(m.Evidence.A), B: sealed(m.Evidence.B)}
		if k&1 > 0 {
			m.Evidence.A.Seal = api.Seal{1}
			want.A = m.Evidence.A
		}
		if k&2 > 0 {
			m.Evidence.B.Seal = api.Seal{1}
			want.B = m.Evidence.B
		}
		was := len(w.c.Signed(4))
		w.clear()
		w.is("C7", w.c.Lie(3, 0, m), api.OK)
		if got := w.way()[0].m.Evidence; got != want || len(w.c.Signed(4))-was != []int{2, 1, 1, 0}[k] {
			t.Errorf("C7: %+v, want %+v", got, want)
		}
	}
	w.clear()
	w.is("C7: another one's", w.c.Lie(3, 0, proof(1, 2)), api.OK)
	if got := w.way()[0].m; !reflect.DeepEqual(got, proof(1, 2)) || len(w.c.Signed(2)) != 0 {
		t.Errorf("C7: %+v", got)
	}
	b, _ := chain.Make(w.state(0), w.c.Registry(), nil, nil, api.Cert{}, 1)
	votes := []api.Vote{{Kind: api.Prevote, Height: 1, Id: idOf(b), From: 1}, {Kind: api.Prevote, Height: 1, Id: idOf(b), From: 4}}
	w.clear()
	w.is("C7", w.c.Lie(3, 0, api.Msg{Kind: api.MsgPolka, Block: b, Votes: votes}), api.OK)
	if got := w.way()[0].m.Votes; !slices.Equal(got, []api.Vote{votes[0], sealed(votes[1])}) {
		t.Errorf("C7: %+v", got)
	}
}

// TestLieNoForm: what has no form is not under way, but what was signed has been signed.
func TestLieNoForm(t *testing.T) {
	good := api.Vote{Kind: api.Prevote, Height: 1, From: 4}
	next, bad := good, good
	next.Round = 1
	bad.Kind = 3
	late := good
	late.Round = api.MaxRound + 1
	q := api.Proposal{Height: 1, ValidRound: -1, Id: api.Hash{1}, From: 4}
	badQ := q
	badQ.Id = none
	for k, x := range []struct {
		m      api.Msg
		want   api.Errno
		signed int
	}{
		{api.Msg{Kind: api.MsgVote, Votes: []api.Vote{good, next}}, api.ErrField, 2},                           // not just one
		{api.Msg{Kind: api.MsgVote, Votes: []api.Vote{good, bad, next}}, api.ErrKind, 1},                       // the bytes of the second
		{api.Msg{Kind: api.MsgVote, Votes: []api.Vote{late, bad}}, api.ErrField, 0},                            // of the first
		{api.Msg{Kind: api.MsgVote, Votes: []api.Vote{bad}}, api.ErrKind, 0},                                   //
		{api.Msg{Kind: 99, Votes: []api.Vote{good}}, api.ErrKind, 1},                                           //
		{api.Msg{Kind: 99, Votes: []api.Vote{late}}, api.ErrField, 0},                                          // the bytes come first
		{api.Msg{Kind: api.MsgStatus, Height: 1, Votes: []api.Vote{good}}, api.ErrField, 1},                    // a field that it does not use
		{api.Msg{Kind: api.MsgStatus, Height: 1, Proposal: q}, api.ErrField, 0},                                // which is sealed in a MsgProposal alone
		{api.Msg{Kind: api.MsgStatus, Height: 1, Tx: pays(4, 0)}, api.ErrField, 0},                             //
		{api.Msg{Kind: api.MsgTx, Tx: pays(1, 0), Evidence: proof(1, 4).Evidence}, api.ErrField, 0},            //
		{api.Msg{Kind: api.MsgStatus}, api.ErrField, 0},                                                        // no height
		{api.Msg{Kind: api.MsgProposal, Proposal: q, Votes: []api.Vote{good}}, api.ErrField, 2},                // the block has no form
		{api.Msg{Kind: api.MsgProposal, Proposal: badQ, Votes: []api.Vote{good}}, api.ErrField, 1},             //
		{api.Msg{Kind: api.MsgProposal, Proposal: badQ, Votes: []api.Vote{bad}}, api.ErrKind, 0},               // votes come ahead
		{api.Msg{Kind: api.MsgTx, Tx: api.Tx{Kind: 7, From: 4}}, api.ErrKind, 0},                               //
		{api.Msg{Kind: api.MsgTx, Tx: pays(4, 0), Height: 1}, api.ErrField, 1},                                 //
		{api.Msg{Kind: api.MsgEvidence, Evidence: api.Evidence{A: good, B: good}}, api.ErrOrder, 1},            //
		{api.Msg{Kind: api.MsgEvidence, Evidence: api.Evidence{A: good, B: bad}}, api.ErrKind, 1},              //
		{api.Msg{Kind: api.MsgEvidence, Evidence: api.Evidence{A: late, B: bad}}, api.ErrField, 0},             //
		{api.Msg{Kind: api.MsgVote, Votes: []api.Vote{{Kind: 3, Height: 1, From: 2}}}, api.ErrKind, 0},         // not its own
		{api.Msg{Kind: api.MsgVote, Votes: []api.Vote{{Kind: 3, From: 4, Seal: api.Seal{1}}}}, api.ErrKind, 0}, // it has a seal
		{api.Msg{Kind: api.MsgPolka, Votes: make([]api.Vote, api.MaxSeats+1)}, api.ErrField, 0},                //
	} {
		w := begin(t, four(), 1)
		for _, to := range []int{-1, 0} {
			if got := w.c.Lie(3, to, x.m); got != x.want || len(w.c.Signed(4)) != x.signed || w.c.Pending() != 0 || w.c.Registry().Count() != x.signed {
				t.Errorf("C7: %d: error %d, %d are signed, %d under way; want %d, %d", k, got, len(w.c.Signed(4)), w.c.Pending(), x.want, x.signed)
			}
		}
	}
}

// TestPunished is example 5: a liar that shows two prevotes comes to jail, and a part of its bond is burnt; nobody else does.
func TestPunished(t *testing.T) {
	w := begin(t, four(), 1)
	w.rounds(40)
	height := w.state(0).Height
	w.is("C7", w.c.Lie(3, 1, proof(height, 4)), api.OK)
	w.rounds(80)
	for k := range 3 {
		st := w.state(k)
		for _, x := range st.Ledger.Accounts {
			if want := x.Addr == 4; x.Jailed != want || want && x.Bond != 5 || !want && x.Bond != 10 {
				t.Errorf("example 5: %+v", x)
			}
		}
		if st.Ledger.Burnt != 5 || ledger.Sound(st.Ledger) != api.OK || len(st.Council.Members) != 3 {
			t.Errorf("example 5: %d are burnt, %d sit", st.Ledger.Burnt, len(st.Council.Members))
		}
	}
}
