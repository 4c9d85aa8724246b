package pool_test

import (
	"math"
	"testing"

	"assent/api"
	"assent/ledger"
)

func TestPickByRows(t *testing.T) {
	w := newWorld(t, 20, api.Account{Addr: 1, Balance: 1000, Nonce: 5}, api.Account{Addr: 2, Balance: 1000}, api.Account{Addr: 3, Balance: 1000}, api.Account{Addr: 4, Balance: 1000})
	w.wantPick("nothing is held")
	a, b, c := w.pay(1, 5, 1, 2), w.pay(1, 6, 1, 9), w.pay(1, 7, 1, 5)
	d, e, f := w.pay(2, 0, 1, 5), w.pay(2, 1, 1, 2), w.pay(2, 2, 1, 4)
	g, h, i := w.pay(3, 0, 1, 2), w.pay(3, 1, 1, 2), w.pay(3, 2, 1, 6)
	w.fill(g, h, i, a, b, c, d, e, f)
	// d 5; then a, e, g with 2 each, by From: a; then b 9, c 5; then e 2, f 4; then g, h, i.
	all := []api.Tx{d, a, b, c, e, f, g, h, i}
	w.wantPick("the dearest of the first ones", all...)
	for n := range all {
		w.st.Params.MaxTxs = n
		w.wantPick("as many as a block may have", all[:n]...)
	}
	for _, most := range []int{-1, math.MinInt} {
		w.st.Params.MaxTxs = most
		w.wantPick("less than none")
	}
	for _, most := range []int{9, 10, math.MaxInt} {
		w.st.Params.MaxTxs = most
		w.wantPick("all", all...)
	}
	j := w.pay(4, 0, 1, 2)
	w.fill(j)
	w.wantPick("of equal fees the least From", append(all, j)...)
}

// TestPickFromTheNonceOn: a row begins at the account's nonce and ends at the first gap.
func TestPickFromTheNonceOn(t *testing.T) {
	w := newWorld(t, 20, api.Account{Addr: 1, Balance: 1000}, api.Account{Addr: 2, Balance: 1000})
	var row []api.Tx
	for n := range uint64(6) {
		row = append(row, w.pay(1, n, 1, n+1))
	}
	w.fill(row[:3]...)
	x := w.pay(2, 0, 1, 1)
	w.fill(x)
	w.account(1).Nonce = 4
	w.fill(row[4:]...)
	w.wantPick("from 4 on", row[4], row[5], x)
	w.account(1).Nonce = 1
	w.wantPick("from 1 to the gap", row[1], row[2], x)
	w.account(1).Nonce = 3
	w.wantPick("nothing is held of 3", x)
	w.account(1).Nonce = 6
	w.wantPick("all are over", x)
	w.account(1).Nonce = math.MaxUint64
	w.wantPick("the greatest nonce", x)
	w.account(1).Nonce = 0
	w.fill(row[3])
	w.wantPick("all", append([]api.Tx{row[0], row[1], row[2]}, row[3], row[4], row[5], x)...)
	w.st.Ledger.Accounts = w.st.Ledger.Accounts[1:]
	w.st.Ledger.Supply = 1000
	w.wantPick("1 has no account", x)
}

func TestPickAtTheLastNonces(t *testing.T) {
	w := newWorld(t, 20, api.Account{Addr: 1, Balance: 1000, Nonce: math.MaxUint64 - 2})
	x, y := w.pay(1, math.MaxUint64-2, 1, 1), w.pay(1, math.MaxUint64-1, 1, 1)
	w.fill(x, y)
	w.wantPick("the last nonces", x, y)
	w.account(1).Nonce++
	w.wantPick("the last but one", y)
	w.wantTold("O4: the last but two", w.p.Recheck(w.st), x)
}

// TestPickPlays: what the ledger refuses takes its whole row with it; the others go on.
func TestPickPlays(t *testing.T) {
	w := newWorld(t, 20, api.Account{Addr: 1, Balance: 100}, api.Account{Addr: 2, Balance: 100, Bond: 20}, api.Account{Addr: 3, Balance: 100, Bond: 5, Jailed: true}, api.Account{Addr: 4, Balance: 100})
	a, b := w.kind(api.TxUnbond, 1, 0, 1, 9), w.pay(1, 1, 0, 8)
	c, d, e := w.kind(api.TxUnbond, 2, 0, 20, 7), w.kind(api.TxUnbond, 2, 1, 1, 9), w.pay(2, 2, 1, 9)
	f, g := w.kind(api.TxFree, 3, 0, 0, 6), w.pay(3, 1, 1, 9)
	h, i := w.kind(api.TxBond, 4, 0, 10, 5), w.kind(api.TxUnbond, 4, 1, 10, 4)
	w.fill(a, b, c, d, e, f, g, h, i)
	w.wantPick("1 has no bond, 2 only 20, 3 not enough to be free", c, h, i)
	w.st.Params.MaxTxs = 2
	w.wantPick("what is refused counts for nothing", c, h)
	w.st.Params.MaxTxs = 100
	w.st.Params.MinBond = 5
	w.wantPick("3 is free to go", c, f, g, h, i)
	w.account(1).Bond = 1
	w.st.Ledger.Supply++
	w.wantPick("1 has a bond", a, b, c, f, g, h, i)
	w.st.Params.Period = api.MaxHeights + 1
	w.wantPick("the ledger takes nothing")
	w.st.Params.Period = api.MaxHeights
	w.wantPick("the longest period", a, b, c, f, g, h, i)
	w.st.Chain = "b"
	w.wantPick("sealed for another chain")
}

// TestPickPaysFirst: what is due at the next height can be spent there.
func TestPickPaysFirst(t *testing.T) {
	w := newWorld(t, 20, api.Account{Addr: 1, Balance: 100}, api.Account{Addr: 2, Balance: 100})
	x, y := w.pay(1, 0, 90, 1), w.pay(2, 0, 1, 1)
	w.fill(x, y)
	w.account(1).Balance = 10
	w.st.Ledger.Releases = []api.Release{{Height: 4, Addr: 1, Born: 1, Amount: 81}}
	w.st.Ledger.Supply = 191
	if e := ledger.Sound(w.st.Ledger); e != api.OK {
		t.Fatalf("ledger.Sound: error %d", e)
	}
	w.wantPick("due at 4", x, y)
	w.st.Height = 2
	w.wantPick("not due at 3", y)
	w.st.Height = 9
	w.wantPick("due long ago", x, y)
	w.st.Height, w.st.Ledger.Releases[0].Amount, w.st.Ledger.Supply = 3, 80, 190
	w.wantPick("one too little", y)
}

// TestPickSpendsFees: the proposer may spend what the block has paid to it, and whoever is paid too.
func TestPickSpendsFees(t *testing.T) {
	w := newWorld(t, 20, api.Account{Addr: 1, Balance: 100}, api.Account{Addr: 2, Balance: 100}, api.Account{Addr: 9, Balance: 100})
	x := w.pay(1, 0, 30, 20)
	y := w.sealed(api.Tx{Kind: api.TxPay, From: 2, To: 1, Amount: 10, Fee: 10})
	z := w.sealed(api.Tx{Kind: api.TxPay, From: 9, To: 1, Amount: 25, Fee: 5})
	w.fill(x, y, z)
	w.account(2).Balance, w.account(9).Balance, w.st.Ledger.Supply = 0, 0, 100
	w.wantPick("2 proposes", x, y, z)
	w.wantTold("O3: 1 proposes", w.p.Pick(w.st, w.r, 1), x, z)
	w.wantTold("O3: 9 proposes", w.p.Pick(w.st, w.r, 9), x, z)
	w.wantTold("O3: nobody proposes", w.p.Pick(w.st, w.r, 0), x, z)
	w.st.Params.MaxTxs = 1
	w.wantPick("one", x)
	// A row that was refused does not come back, though it could be paid later on.
	w = newWorld(t, 20, api.Account{Addr: 1, Balance: 100}, api.Account{Addr: 2, Balance: 100})
	x, y = w.pay(1, 0, 30, 20), w.pay(2, 0, 1, 21)
	w.fill(x, y)
	w.account(2).Balance, w.st.Ledger.Supply = 0, 100
	w.wantPick("2 comes first, and can't pay yet", x)
}

// TestPickOfWhoHasNoAccountYet: a payment makes an account, but the rows are those of the accounts ahead of it.
func TestPickOfWhoHasNoAccountYet(t *testing.T) {
	w := newWorld(t, 20, api.Account{Addr: 1, Balance: 100}, api.Account{Addr: 9, Balance: 100})
	x, y := w.pay(1, 0, 30, 20), w.pay(9, 0, 1, 1)
	w.fill(x, y)
	w.st.Ledger.Accounts, w.st.Ledger.Supply = w.st.Ledger.Accounts[:1], 100
	w.wantPick("9 has no account", x)
}

func TestPickAtHeights(t *testing.T) {
	w := examples(t)
	x := w.pay(1, 5, 10, 3)
	w.fill(x)
	for _, height := range []uint64{0, 1, api.MaxHeight - 2, api.MaxHeight - 1} {
		w.st.Height = height
		w.wantPick("a height", x)
	}
	for _, height := range []uint64{api.MaxHeight, api.MaxHeight + 1, math.MaxUint64 - 1, math.MaxUint64} {
		w.st.Height = height
		w.wantPick("no height")
	}
}

// TestPickOfManyRows goes through rows of all lengths.
func TestPickOfManyRows(t *testing.T) {
	w := many(t, 60, 1000)
	m := &model{most: 1000}
	for a := api.Addr(1); a <= 60; a++ {
		for n := range uint64(a % 17) {
			x := w.pay(a, n, uint64(a), (uint64(a)*7919+n*104729)%23)
			w.add("of many", x, api.OK)
			m.add(w.st, w.r, x)
		}
	}
	w.st.Params.MaxTxs = math.MaxInt
	if len(m.list) < 400 || len(m.pick(w.st, w.r, 2)) != len(m.list) {
		t.Fatalf("%d are held, and not all are picked", len(m.list))
	}
	w.wantPick("many", m.pick(w.st, w.r, 2)...)
	w.st.Params.MaxTxs = 200
	w.wantPick("many", m.pick(w.st, w.r, 2)...)
}
