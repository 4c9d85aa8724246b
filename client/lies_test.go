package client_test

import (
	"math"
	"slices"
	"testing"

	"assent/api"
	"assent/digest"
	"assent/ledger"
	"assent/wire"
)

// lied is the witness of an address behind block 2, turned.
func (w *world) lied(turn func(*api.Witness)) *source {
	s := w.honest()
	s.account = func(height uint64, a api.Addr) (api.Witness, api.Errno) {
		x, e := w.witnessOf(height, a)
		turn(&x)
		return x, e
	}
	return s
}

// TestWitnesses: whatever is turned of a witness, it is a lie; and another source is believed as ever.
func TestWitnesses(t *testing.T) {
	w := examples(t)
	c := w.follower(30, 2, 3)
	l := w.ledgers[2] // the accounts 1, 3 and 5
	other := func(height int, a api.Addr) func(*api.Witness) {
		return func(x *api.Witness) { *x, _ = ledger.Prove(w.ledgers[height], a) }
	}
	flat := func(a api.Addr) func(*api.Witness) { return other(2, a) }
	for _, x := range []struct {
		what string
		a    api.Addr
		turn func(*api.Witness)
	}{
		{"a balance", 3, func(x *api.Witness) { x.Accounts[0].Balance-- }},
		{"a bond", 1, func(x *api.Witness) { x.Accounts[0].Bond++ }},
		{"a nonce", 1, func(x *api.Witness) { x.Accounts[0].Nonce++ }},
		{"in jail", 5, func(x *api.Witness) { x.Accounts[0].Jailed = true }},
		{"an address", 3, func(x *api.Witness) { x.Accounts[0].Addr = 4 }},
		{"an address that is asked for", 4, func(x *api.Witness) {
			x.Accounts, x.Proofs = x.Accounts[:1], x.Proofs[:1]
			x.Accounts[0].Addr = 4
		}},
		{"the rest", 3, func(x *api.Witness) { x.Rest[31]++ }},
		{"the rest, of nobody", 4, func(x *api.Witness) { x.Rest[0]++ }},
		{"an index", 3, func(x *api.Witness) { x.Proofs[0].Index = 0 }},
		{"an index below all", 3, func(x *api.Witness) { x.Proofs[0].Index = math.MinInt }},
		{"a total", 3, func(x *api.Witness) { x.Proofs[0].Total = 4 }},
		{"no total", 3, func(x *api.Witness) { x.Proofs[0].Total = 0 }},
		{"a digest", 3, func(x *api.Witness) { x.Proofs[0].Aunts[1][7]++ }},
		{"a digest too few", 3, func(x *api.Witness) { x.Proofs[0].Aunts = x.Proofs[0].Aunts[:1] }},
		{"a digest too many", 3, func(x *api.Witness) { x.Proofs[0].Aunts = append(x.Proofs[0].Aunts, api.Hash{}) }},
		{"no proof", 3, func(x *api.Witness) { x.Proofs = nil }},
		{"two proofs", 3, func(x *api.Witness) { x.Proofs = append(x.Proofs, x.Proofs[0]) }},
		{"the account twice", 3, func(x *api.Witness) {
			x.Accounts, x.Proofs = append(x.Accounts, x.Accounts[0]), append(x.Proofs, x.Proofs[0])
		}},
		{"three accounts", 3, func(x *api.Witness) {
			x.Accounts, x.Proofs = slices.Clone(l.Accounts), append(x.Proofs, x.Proofs[0], x.Proofs[0])
		}},
		{"that there is none, by nothing", 3, func(x *api.Witness) { *x = api.Witness{} }},
		{"that there is none, by the rest alone", 3, func(x *api.Witness) { x.Accounts, x.Proofs = nil, nil }},
		{"that there is none, by what is for 2", 3, flat(2)},
		{"that there is none, by what is for 4", 3, flat(4)},
		{"that there is none, by the first alone", 3, flat(1)},
		{"that there is none, by the last alone", 3, flat(5)},
		{"that there is none behind the last but one", 5, flat(3)},
		{"that there is one, by another's", 4, flat(3)},
		{"neighbours in another order", 4, func(x *api.Witness) { slices.Reverse(x.Accounts); slices.Reverse(x.Proofs) }},
		{"neighbours with one another's proofs", 4, func(x *api.Witness) { slices.Reverse(x.Proofs) }},
		{"a neighbour alone", 4, func(x *api.Witness) { x.Accounts, x.Proofs = x.Accounts[:1], x.Proofs[:1] }},
		{"the other neighbour alone", 4, func(x *api.Witness) { x.Accounts, x.Proofs = x.Accounts[1:], x.Proofs[1:] }},
		{"what was behind block 1", 3, other(1, 3)},
		{"what was behind block 1, of one that is there in both", 1, other(1, 1)},
		{"what is behind block 7", 3, other(7, 3)},
	} {
		s := w.lied(x.turn)
		wantNoAccount(t, "P19.1: "+x.what, c, s, 2, x.a, api.ErrLie)
		s.wantAsked(t, "P19.5: "+x.what, "account 2 "+string(rune('0'+x.a)))
		found, _ := ledger.Find(l, x.a)
		wantAccount(t, "P19.4: "+x.what, c, w.honest(), 2, x.a, found)
	}
}

// TestRightByTheWay: what is right is taken whoever shows it, and however he came to it.
func TestRightByTheWay(t *testing.T) {
	w := examples(t)
	c := w.follower(90, 2, 3, 4, 9)
	s := w.honest()
	s.account = func(height uint64, a api.Addr) (api.Witness, api.Errno) { return w.witnessOf(3, a) } // it is the same ledger
	wantAccount(t, "S3", c, s, 2, 3, api.Account{Addr: 3, Balance: 30})
	s.account = func(height uint64, a api.Addr) (api.Witness, api.Errno) {
		x, e := w.witnessOf(height, 2) // between 1 and 3; for 0 and 4 it shows nothing
		return x, e
	}
	wantAccount(t, "S3", c, s, 2, 2, api.Account{})
	wantNoAccount(t, "S3", c, s, 2, 0, api.ErrLie)
	wantNoAccount(t, "S3", c, s, 2, 4, api.ErrLie)
	s.account = func(height uint64, a api.Addr) (api.Witness, api.Errno) { return w.witnessOf(height, 6) } // the last one alone: it shows that nobody is above it
	for _, a := range []api.Addr{6, 7, math.MaxUint64} {
		wantAccount(t, "S3", c, s, 2, a, api.Account{})
	}
	wantAccount(t, "S3: and who the last one is", c, s, 2, 5, api.Account{Addr: 5, Balance: 7, Bond: 2})
}

// txLied is the transaction of a place, turned.
func (w *world) txLied(turn func(*api.Tx, *api.Proof)) *source {
	s := w.honest()
	s.tx = func(height uint64, at int) (api.Tx, api.Proof, api.Errno) {
		x, p, e := w.txOf(height, at)
		turn(&x, &p)
		return x, p, e
	}
	return s
}

// TestProofs: whatever is turned of a transaction and its proof, it is a lie; and another source is believed as ever.
func TestProofs(t *testing.T) {
	w := newWorld(t, 0, accounts(t))
	pays := api.Tx{Kind: api.TxPay, From: 1, To: 2, Amount: 5, Fee: 3, Nonce: 7, Seal: api.Seal{1, 2, 3}}
	frees := api.Tx{Kind: api.TxFree, From: 4, Nonce: 1}
	txs := []api.Tx{pays, frees, pays} // the first and the last are alike
	w.grow(seats(1), seats(1), accounts(t), txs...)
	w.grow(seats(1), seats(1), accounts(t), frees)
	w.grow(seats(1), seats(1), accounts(t))
	c := w.client(1, 30)
	is(t, "S2", c.Follow(w.honest(), 2, 30), api.OK)
	is(t, "S2", c.Follow(w.honest(), 3, 30), api.OK)
	shown := func(l []api.Tx, at int) func(*api.Tx, *api.Proof) {
		return func(x *api.Tx, p *api.Proof) { *x = l[at]; *p, _ = digest.Prove(forms(l), at) }
	}
	for _, x := range []struct {
		what string
		turn func(*api.Tx, *api.Proof)
	}{
		{"an amount", func(x *api.Tx, p *api.Proof) { x.Amount++ }},
		{"a fee", func(x *api.Tx, p *api.Proof) { x.Fee = 0 }},
		{"a nonce", func(x *api.Tx, p *api.Proof) { x.Nonce = math.MaxUint64 }},
		{"who pays", func(x *api.Tx, p *api.Proof) { x.From = 2 }},
		{"who is paid", func(x *api.Tx, p *api.Proof) { x.To = 1 }},
		{"a seal", func(x *api.Tx, p *api.Proof) { x.Seal[15]++ }},
		{"a kind", func(x *api.Tx, p *api.Proof) { x.Kind, x.To = api.TxBond, 0 }},
		{"no kind", func(x *api.Tx, p *api.Proof) { x.Kind = 0 }},
		{"a kind whose last byte is the kind", func(x *api.Tx, p *api.Proof) { x.Kind += 256 }},
		{"nobody pays", func(x *api.Tx, p *api.Proof) { x.From = 0 }},
		{"an amount that can't be", func(x *api.Tx, p *api.Proof) { x.Amount = math.MaxUint64 }},
		{"no transaction", func(x *api.Tx, p *api.Proof) { *x = api.Tx{} }},
		{"no proof", func(x *api.Tx, p *api.Proof) { *p = api.Proof{} }},
		{"nothing", func(x *api.Tx, p *api.Proof) { *x, *p = api.Tx{}, api.Proof{} }},
		{"another one with this one's proof", func(x *api.Tx, p *api.Proof) { *x = frees }},
		{"another one with its own proof", shown(txs, 1)},
		{"the like of another place with its own proof", shown(txs, 2)},
		{"another one with its own proof under this place's number", func(x *api.Tx, p *api.Proof) { shown(txs, 1)(x, p); p.Index = 0 }},
		{"the like of another place under this place's number", func(x *api.Tx, p *api.Proof) { shown(txs, 2)(x, p); p.Index = 0 }},
		{"another list's", shown([]api.Tx{pays, frees}, 0)},
		{"a list of its own alone", shown([]api.Tx{pays}, 0)},
		{"block 2's", shown(w.txs[2], 0)},
		{"an index", func(x *api.Tx, p *api.Proof) { p.Index = 1 }},
		{"an index below all", func(x *api.Tx, p *api.Proof) { p.Index = -1 }},
		{"the greatest index", func(x *api.Tx, p *api.Proof) { p.Index = math.MaxInt }},
		{"a total", func(x *api.Tx, p *api.Proof) { p.Total = 4 }},
		{"a lesser total", func(x *api.Tx, p *api.Proof) { p.Total = 2 }},
		{"no total", func(x *api.Tx, p *api.Proof) { p.Total = 0 }},
		{"the greatest total", func(x *api.Tx, p *api.Proof) { p.Total = math.MaxInt }},
		{"a digest", func(x *api.Tx, p *api.Proof) { p.Aunts[0][0]++ }},
		{"the digests turned round", func(x *api.Tx, p *api.Proof) { slices.Reverse(p.Aunts) }},
		{"a digest too few", func(x *api.Tx, p *api.Proof) { p.Aunts = p.Aunts[1:] }},
		{"a digest twice", func(x *api.Tx, p *api.Proof) { p.Aunts = append(p.Aunts, p.Aunts[1]) }},
		{"no digests", func(x *api.Tx, p *api.Proof) { p.Aunts = nil }},
	} {
		s := w.txLied(x.turn)
		wantNoTx(t, "P19.2: "+x.what, c, s, 1, 0, api.ErrLie)
		s.wantAsked(t, "P19.5: "+x.what, "tx 1 0")
		wantTx(t, "P19.4: "+x.what, c, w.honest(), 1, 0, pays)
	}
	// Beyond the list's end, and in an empty list, there is nothing that can be shown.
	for _, at := range []int{3, 4, 999} {
		for k := range txs {
			wantNoTx(t, "P19.2", c, w.showing(txs, k, k), 1, at, api.ErrLie)
			wantNoTx(t, "P19.2", c, w.showing(txs, k, at), 1, at, api.ErrLie)
		}
	}
	for k := range txs {
		wantNoTx(t, "P19.2: an empty list", c, w.showing(txs, k, k), 3, k, api.ErrLie)
		wantNoTx(t, "P19.2: an empty list", c, w.showing(txs[k:k+1], 0, 0), 3, 0, api.ErrLie)
	}
}

// showing is a source that shows the transaction of a place, with its proof under another number.
func (w *world) showing(l []api.Tx, k, index int) *source {
	s := w.honest()
	s.tx = func(uint64, int) (api.Tx, api.Proof, api.Errno) {
		p, e := digest.Prove(forms(l), k)
		p.Index = index
		return l[k], p, e
	}
	return s
}

// TestFormsBesides: under a root of items that are no transactions' forms nothing can be shown, not even what is no transaction.
func TestFormsBesides(t *testing.T) {
	bent := api.Tx{Kind: api.TxPay, From: 1, Amount: 5} // it pays nobody, so it is not plain
	good := api.Tx{Kind: api.TxPay, From: 1, To: 2, Amount: 5}
	form, _ := wire.EncodeTx(good)
	form[2] = 0 // what the form of the bent one would be
	for _, items := range [][][]byte{{form}, {nil}} {
		w := newWorld(t, 0, accounts(t))
		w.grow(seats(1), seats(1), accounts(t))
		h := w.chain[1].Header
		h.Txs, _ = digest.Root(items)
		w.chain[1] = w.signed(h, seats(1))
		c := w.client(1, 15)
		s := w.honest()
		for _, x := range []api.Tx{{}, bent, good} {
			s.tx = func(uint64, int) (api.Tx, api.Proof, api.Errno) {
				p, e := digest.Prove(items, 0)
				return x, p, e
			}
			wantNoTx(t, "S4: wire.EncodeTx refuses it, or its form is another", c, s, 1, 0, api.ErrLie)
		}
	}
}
