package pool_test

import (
	"fmt"
	"math"
	"slices"
	"testing"

	"assent/api"
	"assent/ledger"
	"assent/pool"
	"assent/seal"
	"assent/wire"
)

const name = "a"

var params = api.Params{MinBond: 10, Seats: 2, Slash: 500, Period: 100, MaxTxs: 100}

// world is a registry with its signers, a state, and a pool.
type world struct {
	t       *testing.T
	r       *seal.Registry
	signers map[api.Addr]*seal.Signer
	st      api.State
	p       *pool.Pool
}

func newPool(t *testing.T, most int) *pool.Pool {
	t.Helper()
	p, e := pool.New(most)
	if e != api.OK || p == nil {
		t.Fatalf("O1: New(%d): error %d", most, e)
	}
	return p
}

func newWorld(t *testing.T, most int, accounts ...api.Account) *world {
	t.Helper()
	l, e := ledger.New(accounts)
	if e != api.OK {
		t.Fatalf("ledger.New of %d accounts: error %d", len(accounts), e)
	}
	st := api.State{Chain: name, Params: params, Height: 3, Ledger: l}
	return &world{t: t, r: seal.New(), signers: map[api.Addr]*seal.Signer{}, st: st, p: newPool(t, most)}
}

// examples is the world of the chapter's examples.
func examples(t *testing.T) *world {
	t.Helper()
	return newWorld(t, 3, api.Account{Addr: 1, Balance: 100, Nonce: 5}, api.Account{Addr: 2, Balance: 50})
}

func (w *world) sealedFor(chain string, x api.Tx) api.Tx {
	if w.signers[x.From] == nil {
		w.signers[x.From], _ = w.r.Enter(x.From)
	}
	msg, _ := wire.TxBytes(chain, x)
	x.Seal, _ = w.signers[x.From].Sign(msg)
	return x
}

func (w *world) sealed(x api.Tx) api.Tx { return w.sealedFor(name, x) }

// pay is a sealed payment to 9.
func (w *world) pay(from api.Addr, nonce, amount, fee uint64) api.Tx {
	return w.sealed(api.Tx{Kind: api.TxPay, From: from, To: 9, Amount: amount, Fee: fee, Nonce: nonce})
}

func (w *world) kind(kind int, from api.Addr, nonce, amount, fee uint64) api.Tx {
	return w.sealed(api.Tx{Kind: kind, From: from, Amount: amount, Fee: fee, Nonce: nonce})
}

// add wants that answer, and with an error that nothing has changed.
func (w *world) add(what string, x api.Tx, want api.Errno) {
	w.t.Helper()
	w.addBehind(what, w.st, w.r, x, want)
}

func (w *world) addBehind(what string, st api.State, r *seal.Registry, x api.Tx, want api.Errno) {
	w.t.Helper()
	was := w.p.List()
	if e := w.p.Add(st, r, x); e != want {
		w.t.Errorf("O2: %s: error %d, want %d", what, e, want)
	}
	if want != api.OK && !slices.Equal(w.p.List(), was) {
		w.t.Errorf("G2: %s: refused, and %v are held behind %v", what, w.p.List(), was)
	}
	w.wantHeldWell(what)
}

// fill adds all of them.
func (w *world) fill(list ...api.Tx) {
	w.t.Helper()
	for _, x := range list {
		w.add("to fill", x, api.OK)
	}
}

// account is one of the state's, to be changed.
func (w *world) account(a api.Addr) *api.Account {
	k := slices.IndexFunc(w.st.Ledger.Accounts, func(acc api.Account) bool { return acc.Addr == a })
	return &w.st.Ledger.Accounts[k]
}

func idOf(t *testing.T, x api.Tx) api.Hash {
	t.Helper()
	id, e := wire.TxId(x)
	if e != api.OK {
		t.Fatalf("TxId of %v: error %d", x, e)
	}
	return id
}

// wantHeldWell: Len, List and Has say the same, and what P9.1 promises holds of them.
func (w *world) wantHeldWell(what string) {
	w.t.Helper()
	list := w.p.List()
	if len(list) != w.p.Len() {
		w.t.Errorf("O5: %s: Len is %d, List has %d", what, w.p.Len(), len(list))
	}
	if !slices.IsSortedFunc(list, modelOrder) {
		w.t.Errorf("O5: %s: not the dearest first: %v", what, list)
	}
	seen := map[[2]uint64]int{}
	for _, x := range list {
		if !w.p.Has(idOf(w.t, x)) {
			w.t.Errorf("O5: %s: Has not %v", what, x)
		}
		msg, e := wire.TxBytes(w.st.Chain, x)
		if wire.PlainTx(x) != api.OK || e != api.OK || !w.r.Check(x.From, msg, x.Seal) {
			w.t.Errorf("P9.1: %s: not plain, or not sealed: %v", what, x)
		}
		at := [2]uint64{uint64(x.From), x.Nonce}
		if seen[at]++; seen[at] > 1 {
			w.t.Errorf("P9.1: %s: twice of one From and Nonce: %v", what, list)
		}
	}
}

func (w *world) wantTold(what string, got []api.Tx, want ...api.Tx) {
	w.t.Helper()
	if !slices.Equal(got, want) {
		w.t.Errorf("%s: %s, want %s", what, told(got), told(want))
	}
}

func (w *world) wantList(what string, want ...api.Tx) {
	w.t.Helper()
	w.wantTold("O5: List: "+what, w.p.List(), want...)
}

func (w *world) wantPick(what string, want ...api.Tx) {
	w.t.Helper()
	was := w.p.List()
	w.wantTold("O3: Pick: "+what, w.p.Pick(w.st, w.r, 2), want...)
	w.wantTold("P9.6: Pick again: "+what, w.p.Pick(w.st, w.r, 2), want...)
	w.wantTold("O3: behind Pick: "+what, w.p.List(), was...)
}

func (w *world) wantHas(x api.Tx, want bool) {
	w.t.Helper()
	if w.p.Has(idOf(w.t, x)) != want {
		w.t.Errorf("O5: Has %v: not %v", x, want)
	}
}

func told(list []api.Tx) (s string) {
	for _, x := range list {
		s += fmt.Sprintf("(%d, from %d, nonce %d, amount %d, fee %d)", x.Kind, x.From, x.Nonce, x.Amount, x.Fee)
	}
	return s
}

func TestExamples(t *testing.T) {
	w := examples(t)
	five, six := w.pay(1, 5, 10, 3), w.pay(1, 6, 80, 7)
	w.add("example 1", five, api.OK)
	w.add("example 1: again", five, api.ErrKnown)
	w.add("example 1: 6 is missing", w.pay(1, 7, 1, 9), api.ErrFar)
	w.add("example 1: over", w.pay(1, 4, 1, 9), api.ErrPast)
	w.add("example 1: far", w.pay(1, 21, 1, 9), api.ErrFar)
	w.add("example 1: 100 in all", six, api.OK)
	w.add("example 1: above 100", w.pay(1, 7, 0, 1), api.ErrPoor)
	w.add("example 2: not above 3", w.pay(1, 5, 20, 3), api.ErrCheap)
	dear := w.pay(1, 5, 20, 4)
	w.add("example 2", dear, api.OK)
	w.wantHas(five, false)
	w.wantList("example 2", six, dear)
	w.wantPick("example 2", dear)

	w = examples(t)
	five, six = w.pay(1, 5, 10, 3), w.pay(1, 6, 1, 9)
	other, more := w.pay(2, 0, 1, 2), w.pay(2, 1, 1, 10)
	w.fill(five, six, other)
	w.wantList("example 4", six, five, other)
	w.wantPick("example 4", five, six, other)
	w.add("example 3: not above 9", w.pay(2, 1, 1, 4), api.ErrCheap)
	w.add("example 3", more, api.OK)
	w.wantList("example 3", more, five, other)
	w.wantHas(six, false)
	w.st.Params.MaxTxs = 0
	w.wantPick("example 5: none may stand in a block")
	w.account(1).Nonce = 6
	w.wantTold("O4: example 5", w.p.Recheck(w.st), five)
	w.wantList("example 5", more, other)

	x := w.sealedFor("b", api.Tx{Kind: api.TxPay, From: 1, To: 9, Amount: 10, Fee: 3, Nonce: 6})
	w.add("example 6: another chain's", x, api.ErrSeal)
	w.add("example 6: nobody", w.pay(8, 0, 0, 1), api.ErrNobody)
}

func TestNew(t *testing.T) {
	for _, most := range []int{math.MinInt, -1, 0, 65537, math.MaxInt} {
		if p, e := pool.New(most); p != nil || e != api.ErrArg {
			t.Errorf("O1: New(%d): %v, error %d, want none and %d", most, p, e, api.ErrArg)
		}
	}
	for _, most := range []int{1, 2, 65535, 65536} {
		p := newPool(t, most)
		if p.Len() != 0 || len(p.List()) != 0 || p.Has(api.Hash{}) {
			t.Errorf("O1: New(%d) holds something: %v", most, p.List())
		}
	}
}

// TestPoolsApart: what one holds another does not.
func TestPoolsApart(t *testing.T) {
	w := examples(t)
	x := w.pay(1, 5, 10, 3)
	other := newPool(t, 3)
	w.fill(x)
	if other.Len() != 0 || other.Has(idOf(t, x)) || len(other.List()) != 0 || len(other.Pick(w.st, w.r, 1)) != 0 {
		t.Errorf("G4: another pool holds %v", other.List())
	}
	if e := other.Add(w.st, w.r, x); e != api.OK {
		t.Errorf("G4: to another pool: error %d", e)
	}
	w.account(1).Nonce = 6
	other.Recheck(w.st)
	w.wantList("another pool's Recheck", x)
}

func TestRecheck(t *testing.T) {
	w := newWorld(t, 20, api.Account{Addr: 1, Balance: 1000, Nonce: 5}, api.Account{Addr: 2, Balance: 1000}, api.Account{Addr: 3, Balance: 1000, Nonce: 7})
	a, b, c := w.pay(1, 5, 1, 2), w.pay(1, 6, 1, 9), w.pay(1, 7, 1, 5)
	d, e, f := w.pay(2, 0, 1, 9), w.pay(2, 1, 1, 2), w.pay(2, 2, 1, 2)
	g, h := w.pay(3, 7, 1, 2), w.kind(api.TxUnbond, 3, 8, 1, 7)
	w.fill(a, b, c, d, e, f, g, h)
	w.wantTold("O4: nothing is over", w.p.Recheck(w.st))
	w.wantList("nothing is over", b, d, h, c, a, e, f, g)
	gone := w.st
	gone.Ledger = api.Ledger{}
	w.wantTold("O4: there are no accounts", w.p.Recheck(gone))
	w.account(1).Nonce, w.account(2).Nonce = 7, 2
	w.wantTold("O4: the dearest first", w.p.Recheck(w.st), b, d, a, e)
	w.wantList("those that are not over", h, c, f, g)
	w.wantHeldWell("behind Recheck")
	for _, x := range []api.Tx{a, b, d, e} {
		w.wantHas(x, false)
		w.add("one that is over", x, api.ErrPast)
	}
	w.wantTold("O4: told once", w.p.Recheck(w.st))
	w.account(3).Nonce = math.MaxUint64
	w.wantTold("O4: the greatest nonce", w.p.Recheck(w.st), h, g)
	w.account(1).Balance = 0
	w.wantTold("O4: what nobody can pay stays", w.p.Recheck(w.st))
	w.wantList("what nobody can pay stays", c, f)
	w.account(1).Nonce = 8
	w.account(2).Nonce = 3
	w.wantTold("O4: the last ones", w.p.Recheck(w.st), c, f)
	if w.p.Len() != 0 || len(w.p.List()) != 0 {
		t.Errorf("O4: %v are held", w.p.List())
	}
}

// TestRecheckOfAnyAccounts: it is the first account of an address that counts, in whatever order they stand.
func TestRecheckOfAnyAccounts(t *testing.T) {
	w := examples(t)
	x, y := w.pay(1, 5, 1, 1), w.pay(2, 0, 1, 2)
	w.fill(x, y)
	w.st.Ledger = api.Ledger{Accounts: []api.Account{{Addr: 2}, {}, {Addr: 1, Nonce: 6}, {Addr: 2, Nonce: 4}, {Addr: 1}}}
	w.wantTold("O4: not in order", w.p.Recheck(w.st), x)
	w.wantList("not in order", y)
}

// TestOnlyTheLedgerCounts: Recheck looks at nothing else of a state.
func TestOnlyTheLedgerCounts(t *testing.T) {
	w := examples(t)
	x, y := w.pay(1, 5, 1, 1), w.pay(2, 0, 1, 2)
	w.fill(x, y)
	w.account(1).Nonce = 9
	w.wantTold("O4: another chain's state", w.p.Recheck(api.State{Chain: "other", Height: math.MaxUint64, Ledger: api.Ledger{Accounts: w.st.Ledger.Accounts}}), x)
	w.wantList("another chain's state", y)
}
