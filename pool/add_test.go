package pool_test

import (
	"math"
	"math/rand"
	"slices"
	"testing"

	"assent/api"
	"assent/pool"
	"assent/seal"
)

const supply = api.MaxSupply

// TestAddRefusesWhatIsNotPlain: ahead of all but ErrNil; the chain's name comes behind it.
func TestAddRefusesWhatIsNotPlain(t *testing.T) {
	w := examples(t)
	good := w.pay(1, 5, 10, 3)
	change := func(f func(*api.Tx)) api.Tx {
		x := good
		f(&x)
		return w.sealed(x)
	}
	nameless := w.st
	nameless.Chain = ""
	for _, c := range []struct {
		what string
		x    api.Tx
		want api.Errno
	}{
		{"the zero transaction", api.Tx{}, api.ErrKind},
		{"no such kind", change(func(x *api.Tx) { x.Kind = 5 }), api.ErrKind},
		{"a kind below", change(func(x *api.Tx) { x.Kind = 0 }), api.ErrKind},
		{"the least kind", change(func(x *api.Tx) { x.Kind = math.MinInt }), api.ErrKind},
		{"from nobody", api.Tx{Kind: api.TxPay, To: 9, Nonce: 5}, api.ErrField},
		{"to nobody", change(func(x *api.Tx) { x.To = 0 }), api.ErrField},
		{"a bond to somebody", change(func(x *api.Tx) { x.Kind = api.TxBond }), api.ErrField},
		{"too great an amount", change(func(x *api.Tx) { x.Amount = supply + 1 }), api.ErrField},
		{"too great a fee", change(func(x *api.Tx) { x.Fee = supply + 1 }), api.ErrField},
		{"the greatest numbers", change(func(x *api.Tx) { x.Fee, x.Amount = math.MaxUint64, math.MaxUint64 }), api.ErrField},
		{"a freeing with an amount", w.kind(api.TxFree, 1, 5, 1, 1), api.ErrField},
	} {
		w.add(c.what, c.x, c.want)
		w.addBehind(c.what+", without a chain", nameless, w.r, c.x, c.want)
		w.addBehind(c.what+", without a state", api.State{}, w.r, c.x, c.want)
	}
	w.addBehind("no kind, and no chain's name", nameless, w.r, api.Tx{}, api.ErrKind)
	for _, chain := range []string{"", "seventeen letters", string(make([]byte, 1000))} {
		st := w.st
		st.Chain = chain
		w.addBehind("no chain's name", st, w.r, good, api.ErrField)
	}
	w.add("a good one", good, api.OK)
	w.addBehind("known, and no chain's name", nameless, w.r, good, api.ErrField)
}

func TestAddRefusesSeals(t *testing.T) {
	w := examples(t)
	good := w.pay(1, 5, 10, 3)
	for k := range good.Seal {
		x := good
		x.Seal[k]++
		w.add("a byte of the seal is another", x, api.ErrSeal)
	}
	x := good
	x.Amount++
	w.add("sealed for another amount", x, api.ErrSeal)
	x = good
	x.From = 2
	w.add("sealed by another", x, api.ErrSeal)
	x = w.sealedFor("b", api.Tx{Kind: api.TxPay, From: 1, To: 9, Amount: 7, Fee: 7, Nonce: 5})
	w.add("sealed for another chain", x, api.ErrSeal)
	w.addBehind("sealed in another registry", w.st, seal.New(), good, api.ErrSeal)
	w.add("nobody has sealed it", api.Tx{Kind: api.TxPay, From: 77, To: 9}, api.ErrSeal)
	w.add("a good one", good, api.OK)
	other := w.st
	other.Chain = "b"
	w.addBehind("known, but sealed for another chain", other, w.r, good, api.ErrSeal)
	w.addBehind("known, but not to this registry", w.st, seal.New(), good, api.ErrSeal)
}

// TestAddErrorsInOrder: of those that apply it is the first that is answered.
func TestAddErrorsInOrder(t *testing.T) {
	w := newWorld(t, 2, api.Account{Addr: 1, Balance: 100, Nonce: 5}, api.Account{Addr: 2, Balance: 50})
	x, y := w.pay(1, 5, 10, 3), w.pay(1, 6, 10, 3)
	w.fill(x, y)
	empty := w.st
	empty.Ledger = api.Ledger{}
	w.addBehind("known, and nobody's", empty, w.r, x, api.ErrKnown)
	later := w.st
	later.Ledger = api.Ledger{Accounts: []api.Account{{Addr: 1, Nonce: 9}}}
	w.addBehind("known, and over", later, w.r, x, api.ErrKnown)
	later.Ledger = api.Ledger{Accounts: []api.Account{{Addr: 1, Nonce: 0}}}
	w.addBehind("known, far and poor", later, w.r, y, api.ErrKnown)
	w.addBehind("nobody's", empty, w.r, w.pay(1, 7, 1, 1), api.ErrNobody)
	w.addBehind("nobody's, of the greatest nonce", empty, w.r, w.pay(1, math.MaxUint64, 1, 1), api.ErrNobody)
	w.add("over, and poor", w.pay(1, 4, 1000, 9), api.ErrPast)
	w.add("far, and poor", w.pay(1, 21, 1000, 9), api.ErrFar)
	w.add("a gap, and poor", w.pay(1, 8, 1000, 9), api.ErrFar)
	w.add("a gap, and cheap", w.pay(1, 8, 0, 0), api.ErrFar)
	w.add("poor, and cheap in its place", w.pay(1, 5, 1000, 3), api.ErrPoor)
	w.add("poor, and cheap in a full pool", w.pay(2, 0, 50, 1), api.ErrPoor)
	w.add("poor, though dear", w.pay(2, 0, 0, 51), api.ErrPoor)
	w.add("cheap in a full pool", w.pay(2, 0, 49, 1), api.ErrCheap)
	w.add("cheap in a full pool, of the own account", w.pay(1, 7, 0, 70), api.ErrCheap)
}

func TestNonces(t *testing.T) {
	w := newWorld(t, 100, api.Account{Addr: 1, Balance: 1000, Nonce: 5}, api.Account{Addr: 2, Balance: 50, Nonce: math.MaxUint64 - 2}, api.Account{Addr: 3, Balance: 50, Nonce: math.MaxUint64})
	w.add("15 ahead of a gap", w.pay(1, 20, 1, 1), api.ErrFar)
	for n := uint64(5); n < 21; n++ {
		w.add("one ahead of its turn", w.pay(1, n+1, 0, 1), api.ErrFar)
		w.add("in its turn", w.pay(1, n, 1, 1), api.OK)
	}
	w.add("16 ahead, without a gap", w.pay(1, 21, 1, 1), api.ErrFar)
	w.add("17 ahead", w.pay(1, 22, 1, 1), api.ErrFar)
	w.add("the greatest nonce", w.pay(1, math.MaxUint64, 1, 1), api.ErrFar)
	w.add("over by one", w.pay(1, 4, 1, 1), api.ErrPast)
	w.add("0", w.pay(1, 0, 1, 1), api.ErrPast)
	w.account(1).Nonce = 6
	w.add("15 ahead, by now", w.pay(1, 21, 1, 1), api.OK)
	w.add("over, by now", w.pay(1, 5, 1, 9), api.ErrPast)
	w.add("the last but two", w.pay(2, math.MaxUint64-2, 1, 1), api.OK)
	w.add("the last but one", w.pay(2, math.MaxUint64-1, 1, 1), api.OK)
	w.add("the last", w.pay(2, math.MaxUint64, 1, 1), api.ErrFar)
	w.add("nonces don't come round", w.pay(2, 0, 1, 1), api.ErrPast)
	w.add("the last, and due", w.pay(3, math.MaxUint64, 1, 1), api.ErrFar)
	w.add("the last but one is over", w.pay(3, math.MaxUint64-1, 1, 1), api.ErrPast)
}

// TestGapBehindALateState: what is held below the account's nonce closes no gap, and what is held above one does not either.
func TestGapBehindALateState(t *testing.T) {
	w := newWorld(t, 100, api.Account{Addr: 1, Balance: 1000, Nonce: 0})
	w.fill(w.pay(1, 0, 1, 1), w.pay(1, 1, 1, 1))
	w.account(1).Nonce = 4
	w.add("behind a gap, but due", w.pay(1, 4, 1, 1), api.OK)
	w.add("the next", w.pay(1, 5, 1, 1), api.OK)
	w.account(1).Nonce = 1
	w.add("1 is held, 2 not", w.pay(1, 3, 1, 1), api.ErrFar)
	w.add("4 and 5 are held, 2 and 3 not", w.pay(1, 6, 1, 1), api.ErrFar)
	w.add("2", w.pay(1, 2, 1, 1), api.OK)
	w.add("6 still lacks 3", w.pay(1, 6, 1, 1), api.ErrFar)
	w.add("3", w.pay(1, 3, 1, 1), api.OK)
	w.add("6", w.pay(1, 6, 1, 1), api.OK)
}

func TestCosts(t *testing.T) {
	w := newWorld(t, 100, api.Account{Addr: 1, Balance: 100, Bond: 50, Nonce: 5}, api.Account{Addr: 2, Balance: 0, Bond: 9, Nonce: 0})
	w.add("a payment one too dear", w.pay(1, 5, 91, 10), api.ErrPoor)
	w.add("a bond one too dear", w.kind(api.TxBond, 1, 5, 91, 10), api.ErrPoor)
	w.add("an unbonding's fee one too much", w.kind(api.TxUnbond, 1, 5, 0, 101), api.ErrPoor)
	w.add("a freeing's fee one too much", w.kind(api.TxFree, 1, 5, 0, 101), api.ErrPoor)
	w.add("all of it", w.pay(1, 5, 90, 10), api.OK)
	w.add("nothing is left for 1 more", w.pay(1, 6, 1, 0), api.ErrPoor)
	w.add("nothing is left for a fee", w.kind(api.TxUnbond, 1, 6, 1, 1), api.ErrPoor)
	w.add("an unbonding costs its fee alone", w.kind(api.TxUnbond, 1, 6, supply, 0), api.OK)
	w.add("a freeing costs its fee alone", w.kind(api.TxFree, 1, 7, 0, 0), api.OK)
	w.add("nothing at all", w.pay(1, 8, 0, 0), api.OK)
	w.add("another in the first place: what is behind it does not count", w.pay(1, 5, 0, 100), api.OK)
	w.add("in the first place, one too much", w.pay(1, 5, 0, 101), api.ErrPoor)
	w.add("another in the second place: the one that goes does not count", w.kind(api.TxBond, 1, 6, 0, 0), api.ErrCheap)
	w.account(1).Balance = 103
	w.add("in the second place", w.kind(api.TxBond, 1, 6, 1, 2), api.OK)
	w.add("in the second place, once more", w.kind(api.TxBond, 1, 6, 0, 3), api.OK)
	w.add("in the second place, one too much", w.kind(api.TxBond, 1, 6, 0, 4), api.ErrPoor)
	w.add("who has nothing pays nothing", w.kind(api.TxUnbond, 2, 0, 9, 0), api.OK)
	w.add("who has nothing", w.kind(api.TxUnbond, 2, 1, 9, 1), api.ErrPoor)
}

// TestCostsDoNotWrap: sixteen times the greatest amount and fee are more than 64 bits hold.
func TestCostsDoNotWrap(t *testing.T) {
	w := newWorld(t, 100, api.Account{Addr: 1})
	w.account(1).Balance = math.MaxUint64 // more than a sound ledger has
	most := uint64(math.MaxUint64)
	for n := range uint64(16) {
		want := api.OK
		if most < 2*supply {
			want = api.ErrPoor
		}
		w.add("the greatest costs", w.pay(1, n, supply, supply), want)
		if want != api.OK {
			w.add("all that is left", w.pay(1, n, most, 0), api.OK)
			w.add("one more", w.pay(1, n+1, 1, 0), api.ErrPoor)
			w.add("the greatest costs, behind all", w.pay(1, n+1, supply, supply), api.ErrPoor)
			return
		}
		most -= 2 * supply
	}
	t.Error("O2: costs above 2^64 are taken")
}

func TestInItsPlace(t *testing.T) {
	w := newWorld(t, 3, api.Account{Addr: 1, Balance: 100, Nonce: 5}, api.Account{Addr: 2, Balance: 50})
	x, y, z := w.pay(1, 5, 10, 3), w.pay(1, 6, 10, 8), w.pay(2, 0, 1, 1)
	w.fill(x, y)
	w.add("a fee one below", w.pay(1, 5, 1, 2), api.ErrCheap)
	w.add("the same fee", w.pay(1, 5, 1, 3), api.ErrCheap)
	w.add("the same fee, of another kind", w.kind(api.TxFree, 1, 5, 0, 3), api.ErrCheap)
	first := w.kind(api.TxBond, 1, 5, 1, 4)
	w.add("one more", first, api.OK)
	w.wantHas(x, false)
	w.wantList("one in the place of another", y, first)
	w.add("the one that went", x, api.ErrCheap)
	w.add("the one that came", first, api.ErrKnown)
	w.fill(z)
	second := w.pay(1, 5, 2, 20)
	w.add("in a full pool nothing else goes", second, api.OK)
	w.wantList("in a full pool", second, y, z)
	w.add("in a full pool, cheaper than all", w.pay(1, 6, 2, 0), api.ErrCheap)
	third := w.pay(2, 0, 2, 2)
	w.add("in a full pool, cheaper than the others", third, api.OK)
	w.wantList("in a full pool", second, y, third)
	w.wantHas(z, false)
}

func TestFull(t *testing.T) {
	w := newWorld(t, 5, api.Account{Addr: 1, Balance: 100}, api.Account{Addr: 2, Balance: 100}, api.Account{Addr: 3, Balance: 100}, api.Account{Addr: 4, Balance: 100})
	a, b, c, d, e := w.pay(1, 0, 0, 1), w.pay(1, 1, 0, 9), w.pay(2, 0, 0, 2), w.pay(2, 1, 0, 5), w.pay(3, 0, 0, 5)
	w.fill(a, b, c, d, e)
	w.add("0", w.pay(4, 0, 0, 0), api.ErrCheap)
	w.add("dearer than some, but not than a last one", w.pay(4, 0, 0, 4), api.ErrCheap)
	w.add("as dear as the least dear last one", w.pay(4, 0, 0, 5), api.ErrCheap)
	w.add("the own last one stays", w.pay(3, 1, 0, 5), api.ErrCheap)
	f := w.pay(4, 0, 0, 6)
	w.add("one more: of two with one fee that of the greater From goes", f, api.OK)
	w.wantList("3's goes", b, f, d, c, a)
	w.wantHas(e, false)
	w.add("now the last one of 2 is the least dear", e, api.ErrCheap)
	g := w.pay(3, 0, 0, 6)
	w.add("2's last one goes", g, api.OK)
	w.wantList("2's last one goes", b, g, f, c, a)
	h := w.pay(3, 1, 0, 3)
	w.add("and the one ahead of it", h, api.OK)
	w.wantList("2 has no more", b, g, f, h, a)
	w.add("1's first one is not the last", w.pay(2, 0, 0, 2), api.ErrCheap)
	i := w.pay(1, 2, 0, 8)
	w.add("3's last one", i, api.OK)
	w.wantList("3's last one", b, i, g, f, a)
	j := w.pay(4, 1, 0, 7)
	w.add("of the others: 1's 8, 3's 6", j, api.OK)
	w.wantList("3 has no more", b, i, j, f, a)
	w.add("back again, above 4's last one", w.pay(3, 0, 0, 8), api.OK)
	w.wantHas(j, false)
}

func TestFullOfOneAccount(t *testing.T) {
	w := newWorld(t, 2, api.Account{Addr: 1, Balance: 100}, api.Account{Addr: 2, Balance: 100})
	w.fill(w.pay(1, 0, 0, 1), w.pay(1, 1, 0, 1))
	w.add("there is no last one but the own", w.pay(1, 2, 0, 90), api.ErrCheap)
	x := w.pay(2, 0, 0, 2)
	w.add("another's", x, api.OK)
	w.wantList("another's", x, w.pay(1, 0, 0, 1))
	w.add("another's, but the first has 0 ahead of it", w.pay(2, 1, 0, 1), api.ErrCheap)

	w = newWorld(t, 1, api.Account{Addr: 1, Balance: 100}, api.Account{Addr: 2, Balance: 100})
	x, y := w.pay(1, 0, 0, 5), w.pay(2, 0, 0, 6)
	w.fill(x)
	w.add("a pool of one: of the same account", w.pay(1, 1, 0, 6), api.ErrCheap)
	w.add("a pool of one", w.pay(2, 0, 0, 5), api.ErrCheap)
	w.add("a pool of one", y, api.OK)
	w.wantList("a pool of one", y)
	w.add("a pool of one", w.pay(1, 0, 0, 7), api.OK)
	w.wantHas(y, false)
}

// TestLastOverGaps: the last is the one of the greatest nonce, also where those ahead of it are missing.
func TestLastOverGaps(t *testing.T) {
	w := newWorld(t, 4, api.Account{Addr: 1, Balance: 100}, api.Account{Addr: 2, Balance: 100}, api.Account{Addr: 3, Balance: 100})
	a, b, c, d := w.pay(1, 0, 0, 1), w.pay(1, 1, 0, 2), w.pay(1, 7, 0, 9), w.pay(2, 0, 0, 8)
	w.fill(a, b)
	w.account(1).Nonce = 7
	w.fill(c, d)
	w.add("above those that are none", w.pay(3, 0, 0, 7), api.ErrCheap)
	e := w.pay(3, 0, 0, 10)
	w.add("the last one of 2 is the least dear", e, api.OK)
	w.wantList("2's goes", e, c, b, a)
	f := w.pay(2, 0, 0, 11)
	w.add("then that of 1", f, api.OK)
	w.wantList("1's goes", f, e, b, a)
	g := w.pay(3, 1, 0, 3)
	w.add("then that ahead of the gap", g, api.OK)
	w.wantList("1's goes", f, e, g, a)
}

// many is a world of n accounts, each with a balance of 1000.
func many(t *testing.T, n, most int) *world {
	t.Helper()
	list := make([]api.Account, n)
	for k := range list {
		list[k] = api.Account{Addr: api.Addr(k + 1), Balance: 1000}
	}
	return newWorld(t, most, list...)
}

// TestGreatestPool fills one to its last place.
func TestGreatestPool(t *testing.T) {
	w := many(t, 4097, api.MaxPool)
	for n := range uint64(16) {
		for a := api.Addr(1); a <= 4096; a++ {
			if e := w.p.Add(w.st, w.r, w.pay(a, n, 0, 1+uint64(a+api.Addr(n))%50)); e != api.OK {
				t.Fatalf("O2: %d of %d: error %d", n, a, e)
			}
		}
	}
	if w.p.Len() != 65536 {
		t.Fatalf("O2: %d are held, want 65536", w.p.Len())
	}
	list := w.p.List()
	if len(list) != 65536 || !slices.IsSortedFunc(list, modelOrder) {
		t.Errorf("O5: List of 65536")
	}
	if e := w.p.Add(w.st, w.r, w.pay(4097, 0, 0, 1)); e != api.ErrCheap {
		t.Errorf("O2: in the fullest pool: error %d, want %d", e, api.ErrCheap)
	}
	if e := w.p.Add(w.st, w.r, w.pay(4097, 0, 0, 2)); e != api.OK || w.p.Len() != 65536 {
		t.Errorf("P9.1: in the fullest pool: error %d, %d are held", e, w.p.Len())
	}
	// Its last one has the nonce 15: the fee is 1 where the address and 15 are a multiple of 50.
	w.wantHas(w.pay(4085, 15, 0, 1), false)
	for k := range w.st.Ledger.Accounts {
		w.st.Ledger.Accounts[k].Nonce = 16
	}
	if over := w.p.Recheck(w.st); len(over) != 65536 || !slices.IsSortedFunc(over, modelOrder) || w.p.Len() != 0 {
		t.Errorf("O4: of the fullest pool %d are told, %d stay", len(over), w.p.Len())
	}
}

// TestOtherFieldsOfTheState: Add looks at Chain and Ledger.Accounts alone.
func TestOtherFieldsOfTheState(t *testing.T) {
	r := rand.New(rand.NewSource(91))
	w := examples(t)
	bare := api.State{Chain: name, Ledger: api.Ledger{Accounts: w.st.Ledger.Accounts}}
	odd := bare
	odd.Height, odd.Time, odd.Params = math.MaxUint64, math.MaxUint64, api.Params{MaxTxs: -1, Period: math.MaxUint64}
	odd.Ledger.Releases, odd.Ledger.Supply, odd.Ledger.Burnt = []api.Release{{Height: 1, Addr: 1, Amount: 1000}}, 3, math.MaxUint64
	odd.Council.Members = []api.Member{{Addr: 1}}
	p, q := newPool(t, 3), newPool(t, 3)
	for range 300 {
		x := w.pay(api.Addr(1+r.Intn(3)), uint64(r.Intn(9)), uint64(r.Intn(20)), uint64(r.Intn(9)))
		e, f, g := w.p.Add(w.st, w.r, x), p.Add(bare, w.r, x), q.Add(odd, w.r, x)
		if e != f || e != g {
			t.Fatalf("O2: %v: errors %d, %d, %d behind states with the same accounts", x, e, f, g)
		}
	}
	for _, other := range []*pool.Pool{p, q} {
		if !slices.Equal(other.List(), w.p.List()) {
			t.Errorf("O2: %v, want %v", other.List(), w.p.List())
		}
	}
}

// TestAddBehindAccountsInAnyOrder: the first account of an address counts.
func TestAddBehindAccountsInAnyOrder(t *testing.T) {
	w := examples(t)
	w.st.Ledger = api.Ledger{Accounts: []api.Account{{Addr: 7}, {Addr: 2, Balance: 9, Nonce: 4}, {}, {Addr: 1, Balance: 100}, {Addr: 2, Balance: 1000}}}
	w.add("of the second account of 2", w.pay(2, 0, 1, 1), api.ErrPast)
	w.add("too much for the first account of 2", w.pay(2, 4, 9, 1), api.ErrPoor)
	w.add("of the first account of 2", w.pay(2, 4, 8, 1), api.OK)
	w.add("of 1, behind those of greater addresses", w.pay(1, 0, 8, 1), api.OK)
	w.add("nobody", w.pay(3, 0, 8, 1), api.ErrNobody)
}
