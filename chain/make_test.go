package chain_test

import (
	"fmt"
	"reflect"
	"slices"
	"testing"

	"assent/api"
	"assent/chain"
	"assent/council"
	"assent/ledger"
	"assent/wire"
)

func wantNoMake(t *testing.T, w *world, what string, st api.State, last api.Cert, proposer api.Addr, want api.Errno) {
	t.Helper()
	b, e := chain.Make(st, w.r, []api.Tx{w.pay(1, 2, 1, 1, 0)}, []api.Evidence{w.ev(st.Height, 3)}, last, proposer)
	if e != want {
		t.Errorf("C5: %s: error %d, want %d", what, e, want)
	}
	if e != api.OK && !reflect.DeepEqual(b, api.Block{}) {
		t.Errorf("G2: %s: a block beside the error %d", what, e)
	}
}

// TestMakeOrder: ErrTurn, the certificate's error, ErrTime; what stands ahead of these is asked elsewhere.
func TestMakeOrder(t *testing.T) {
	w := examples(t, 3)
	good, early := w.cert(w.st.Time+1), w.cert(w.st.Time)
	wantNoMake(t, w, "good", w.st, good, 1, api.OK)
	wantNoMake(t, w, "early", w.st, early, 1, api.ErrTime)
	wantNoMake(t, w, "early, no member", w.st, early, 9, api.ErrTurn)
	for what, c := range map[string]struct {
		bend func(x *api.Cert)
		want api.Errno
	}{
		"of another height": {func(x *api.Cert) { x.Height-- }, api.ErrCert},
		"of the height":     {func(x *api.Cert) { x.Height++ }, api.ErrCert},
		"of another block":  {func(x *api.Cert) { x.Id[9]++ }, api.ErrCert},
		"the zero one":      {func(x *api.Cert) { *x = api.Cert{} }, api.ErrCert},
		"another height, and not plain": {func(x *api.Cert) {
			x.Height, x.Round = 9, -1
		}, api.ErrCert},
		"not plain":     {func(x *api.Cert) { x.Round = -1 }, api.ErrField},
		"turned about":  {func(x *api.Cert) { slices.Reverse(x.Marks) }, api.ErrOrder},
		"no member's":   {func(x *api.Cert) { x.Marks[3].Index = 63 }, api.ErrMember},
		"another round": {func(x *api.Cert) { x.Round = 1 }, api.ErrSeal},
		"a wrong seal":  {func(x *api.Cert) { x.Marks[0].Seal = x.Marks[1].Seal }, api.ErrSeal},
		"too few":       {func(x *api.Cert) { x.Marks = x.Marks[2:] }, api.ErrQuorum},
	} {
		for _, from := range []api.Cert{good, early} {
			x := from
			x.Marks = slices.Clone(from.Marks)
			c.bend(&x)
			wantNoMake(t, w, what, w.st, x, 1, c.want)
			wantNoMake(t, w, what+", no member", w.st, x, 9, api.ErrTurn)
		}
	}
	w = examples(t, 0)
	wantNoMake0 := func(what string, last api.Cert, proposer api.Addr, want api.Errno) {
		t.Helper()
		if _, e := chain.Make(w.st, w.r, nil, nil, last, proposer); e != want {
			t.Errorf("C4: %s: error %d, want %d", what, e, want)
		}
	}
	wantNoMake0("the zero certificate", api.Cert{Marks: []api.Mark{}}, 1, api.OK)
	for what, x := range map[string]api.Cert{"a height": {Height: 1}, "a round": {Round: 1}, "an id": {Id: api.Hash{31: 1}}, "a mark": {Marks: []api.Mark{{}}}, "a whole one": w.certBy(w.st.Council, 1, 0, api.Hash{1}, upTo(4), at(5))} {
		wantNoMake0(what, x, 1, api.ErrCert)
		wantNoMake0(what+", no member", x, 9, api.ErrTurn)
	}
}

// TestMakeHeader: each part is what the table of councils and blocks says.
func TestMakeHeader(t *testing.T) {
	w := examples(t, 0)
	for range 5 {
		x := w.cert(w.st.Time + 3)
		txs := []api.Tx{w.pay(1, 9, 3, 1, 0), w.pay(2, 9, 1, 0, 0)}
		b, e := chain.Make(w.st, w.r, txs, nil, x, 4)
		if e != api.OK {
			t.Fatalf("C5: error %d", e)
		}
		want := api.Header{Chain: name, Height: w.st.Height + 1, Time: w.st.Time + 3, Last: w.st.Last, Proposer: 4}
		if w.st.Height == 0 {
			want.Time = 1000
		}
		want.Cert, _ = wire.CertId(x)
		want.Txs, _ = wire.TxsRoot(txs)
		want.Evidence, _ = wire.EvidenceRoot(nil)
		want.Council, _ = council.Digest(w.st.Council)
		want.Next, _ = council.Digest(w.st.Next)
		want.State, _ = ledger.Root(w.st.Ledger)
		if b.Header != want || !slices.Equal(b.Txs, txs) || len(b.Evidence) != 0 || !reflect.DeepEqual(b.Last, x) {
			t.Errorf("C5: %v, want %v", b, want)
		}
		w.on(b)
		if id, _ := wire.BlockId(want); w.st.Last != id {
			t.Errorf("C7: Last %x, want %x", w.st.Last, id)
		}
	}
}

// TestMakeEvidence: what Verify takes is kept, of each offence the first, sixteen at most, and then sorted.
func TestMakeEvidence(t *testing.T) {
	w := examples(t, 3)
	wrong := w.ev(2, 4)
	wrong.A.Seal[0]++
	turned := w.ev(2, 4)
	turned.A, turned.B = turned.B, turned.A
	late, early := w.proof(3, 1, api.Precommit, 7), w.ev(3, 1)
	b := w.block(nil, []api.Evidence{
		w.ev(3, 4), wrong, late, w.ev(1, 1), early, w.ev(2, 9), turned, w.ev(2, 3), w.ev(4, 1), {}, w.ev(2, 1), late, w.ev(3, 4),
	})
	want := []api.Evidence{w.ev(2, 1), w.ev(2, 3), late, w.ev(3, 4)}
	if !slices.Equal(b.Evidence, want) {
		t.Errorf("C5: %v, want %v", b.Evidence, want)
	}
	w.valid("as it was made", b, api.OK)
	w.on(b)
	if got, want := w.st.Punished, []api.Offence{{Height: 3, Addr: 1}, {Height: 3, Addr: 4}}; !slices.Equal(got, want) {
		t.Errorf("C7: punished %v, want %v", got, want)
	}
	b = w.block(nil, want)
	if len(b.Evidence) != 0 {
		t.Errorf("C5: punished again: %v", b.Evidence)
	}
	// What was refused at first is taken when it comes rightly.
	good := w.ev(3, 3)
	bad := good
	bad.B.Seal[1]++
	if b = w.block(nil, []api.Evidence{bad, good}); !slices.Equal(b.Evidence, []api.Evidence{good}) {
		t.Errorf("C5: behind one with a wrong seal: %v", b.Evidence)
	}
}

// TestMakeSixteen: of more than sixteen the first of the list are taken, not the first by height.
func TestMakeSixteen(t *testing.T) {
	g := genesis()
	g.Params.Seats, g.Accounts = 40, nil
	for a := api.Addr(1); a <= 40; a++ {
		g.Accounts = append(g.Accounts, api.Account{Addr: a, Bond: 10})
	}
	w := newWorld(t, g)
	w.grow(2)
	var list []api.Evidence
	for a := api.Addr(40); a >= 21; a-- {
		list = append(list, w.ev(2, a), w.ev(2, a))
	}
	list = append(list, w.ev(1, 1))
	b := w.block(nil, list)
	var want []api.Evidence
	for a := api.Addr(25); a <= 40; a++ {
		want = append(want, w.ev(2, a))
	}
	if !slices.Equal(b.Evidence, want) {
		t.Errorf("C5: %d pieces, from %d on", len(b.Evidence), b.Evidence[0].A.From)
	}
	w.valid("sixteen", b, api.OK)
	b.Evidence = append([]api.Evidence{w.ev(1, 1)}, want...)
	w.valid("seventeen", w.bound(b), api.ErrBig)
}

// TestMakeTxs: what the ledger takes is kept, each behind those that were taken ahead of it.
func TestMakeTxs(t *testing.T) {
	w := examples(t, 2)
	unsealed := w.pay(2, 1, 1, 0, 0)
	unsealed.Seal[0]++
	other := w.st
	w.st.Chain = "d"
	foreign := w.pay(2, 1, 1, 0, 0)
	w.st = other
	first, second, third := w.pay(1, 9, 40, 1, 0), w.pay(1, 9, 40, 1, 1), w.pay(1, 9, 40, 1, 2)
	early := w.pay(9, 1, 70, 0, 0)
	b := w.block([]api.Tx{second, early, first, unsealed, {}, second, third, foreign, first, w.due(api.Tx{Kind: api.TxUnbond, From: 4, Amount: 11}, 0), early, third}, nil)
	want := []api.Tx{first, second, early, third}
	if !slices.Equal(b.Txs, want) {
		t.Errorf("C5: %v, want %v", b.Txs, want)
	}
	w.valid("as it was made", b, api.OK)
	w.on(b)
	if acc := w.account(9); acc.Balance != 50 || acc.Nonce != 1 {
		t.Errorf("C7: %v", acc)
	}
}

// TestMakeFees: what the proposer has earned in the block it can spend there; who proposes makes a difference.
func TestMakeFees(t *testing.T) {
	g := genesis()
	g.Accounts[1].Balance = 0
	w := newWorld(t, g)
	w.grow(1)
	txs := []api.Tx{w.pay(1, 4, 1, 20, 0), w.pay(2, 4, 20, 0, 0)}
	for proposer, want := range map[api.Addr]int{2: 2, 3: 1} {
		b, e := chain.Make(w.st, w.r, txs, nil, w.cert(w.st.Time+1), proposer)
		if e != api.OK || !slices.Equal(b.Txs, txs[:want]) {
			t.Errorf("C5: proposed by %d: %v, error %d", proposer, b.Txs, e)
		}
		w.valid(fmt.Sprint("proposed by ", proposer), b, api.OK)
		b.Header.Proposer = 5 - proposer
		refusal := api.OK
		if proposer == 2 {
			refusal = api.ErrFunds
		}
		w.valid(fmt.Sprint("as if proposed by ", 5-proposer), b, refusal)
	}
}

// TestMakeWorksOff: Make plays a block as it is worked off: first what is due is paid, then who lied is punished, then come the transactions.
func TestMakeWorksOff(t *testing.T) {
	w := examples(t, 0)
	w.on(w.block([]api.Tx{w.due(api.Tx{Kind: api.TxUnbond, From: 2, Amount: 4}, 0), w.pay(2, 1, 100, 0, 1)}, nil))
	w.grow(3)
	poor := w.pay(2, 1, 4, 0, 0)
	if b := w.block([]api.Tx{poor}, nil); len(b.Txs) != 0 {
		t.Errorf("C5: spent ahead of its payment")
	}
	w.grow(1) // behind 5; the row of 4 is due at 6
	ev := w.ev(5, 3)
	half := w.due(api.Tx{Kind: api.TxUnbond, From: 3, Amount: 6}, 0)
	free := w.due(api.Tx{Kind: api.TxFree, From: 3}, 0)
	b := w.block([]api.Tx{half, poor, free}, []api.Evidence{ev})
	if !slices.Equal(b.Txs, []api.Tx{poor, free}) {
		t.Errorf("C5: %v", b.Txs)
	}
	w.valid("paid, punished, freed", b, api.OK)
	c := b
	c.Evidence = nil
	w.valid("not punished, so not in jail", w.bound(c), api.ErrJail)
	c.Txs = []api.Tx{half, poor}
	w.valid("not punished, so it has the bond", w.bound(c), api.OK)
	c.Evidence = b.Evidence
	w.valid("punished, so it has not", w.bound(c), api.ErrBond)
	w.on(b)
	if acc := w.account(3); acc.Bond != 5 || acc.Jailed {
		t.Errorf("C7: %v", acc)
	}
	if acc := w.account(2); acc.Balance != 0 || acc.Bond != 6 || len(w.st.Ledger.Releases) != 0 {
		t.Errorf("C7: %v, %v", acc, w.st.Ledger.Releases)
	}
}

// TestValidLater: P12.1: what was made stays valid, whatever is signed meanwhile.
func TestValidLater(t *testing.T) {
	w, b := bendWorld(t)
	for a := api.Addr(1); a <= 9; a++ {
		w.ev(4, a)
		w.proof(3, a, api.Precommit, 1)
		w.pay(a, 3, 7, 7, 0)
		w.pay(a, 3, 7, 7, 1)
	}
	w.cert(w.st.Time + 900)
	w.certBy(w.ahead(), 3, 0, api.Hash{77}, upTo(4), at(3))
	w.valid("later", b, api.OK)
}

// TestIdBinds: P12.4: whatever is changed of a block while its header stays, it is not valid.
func TestIdBinds(t *testing.T) {
	w, b := bendWorld(t)
	count := 0
	for what, bend := range map[string]func(b *api.Block){
		"a transaction less":       func(b *api.Block) { b.Txs = b.Txs[:1] },
		"no transaction":           func(b *api.Block) { b.Txs = nil },
		"another amount":           func(b *api.Block) { b.Txs[0] = w.pay(1, 9, 6, 1, 0) },
		"transactions in order":    func(b *api.Block) { slices.Reverse(b.Txs) },
		"another one's":            func(b *api.Block) { b.Txs[1] = w.pay(3, 1, 5, 1, 0) },
		"a piece of evidence less": func(b *api.Block) { b.Evidence = b.Evidence[1:] },
		"no evidence":              func(b *api.Block) { b.Evidence = nil },
		"another proof":            func(b *api.Block) { b.Evidence[0] = w.proof(2, 3, api.Precommit, 2) },
		"a mark less":              func(b *api.Block) { b.Last.Marks = b.Last.Marks[:3] },
		"other marks":              func(b *api.Block) { b.Last.Marks = b.Last.Marks[1:] },
		"another round": func(b *api.Block) {
			b.Last = w.certBy(w.ahead(), 3, 1, w.st.Last, upTo(4), at(w.st.Time+5))
		},
	} {
		c := copyBlock(b)
		bend(&c)
		w.valid(what, c, api.ErrRoots)
		c = w.bound(c)
		w.valid(what+", with a header of its own", c, api.OK)
		if c.Header == b.Header {
			t.Errorf("P12.4: %s: the same header", what)
		}
		count++
	}
	if count != 11 {
		t.Errorf("only %d were bent", count)
	}
}
