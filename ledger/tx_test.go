package ledger_test

import (
	"math"
	"math/rand"
	"reflect"
	"slices"
	"testing"

	"assent/api"
	"assent/ledger"
	"assent/seal"
)

func pay(from, to api.Addr, amount, fee, nonce uint64) api.Tx {
	return api.Tx{Kind: api.TxPay, From: from, To: to, Amount: amount, Fee: fee, Nonce: nonce}
}

func bond(from api.Addr, amount, fee, nonce uint64) api.Tx {
	return api.Tx{Kind: api.TxBond, From: from, Amount: amount, Fee: fee, Nonce: nonce}
}

func unbond(from api.Addr, amount, fee, nonce uint64) api.Tx {
	return api.Tx{Kind: api.TxUnbond, From: from, Amount: amount, Fee: fee, Nonce: nonce}
}

func free(from api.Addr, fee, nonce uint64) api.Tx {
	return api.Tx{Kind: api.TxFree, From: from, Fee: fee, Nonce: nonce}
}

// apply is Apply at the examples' height and params; and Check must say the same.
func (b *book) apply(t *testing.T, l api.Ledger, x api.Tx, proposer api.Addr) (api.Ledger, api.Errno) {
	t.Helper()
	x = b.sealed(x)
	m, e := ledger.Apply(l, b.r, name, params, 5, proposer, x)
	wantErr(t, "P8.13: Check and Apply", ledger.Check(l, b.r, name, params, 5, x), e)
	return m, e
}

// wantApplied: behind the transaction the accounts are these; the supply stays, and no rows come.
func (b *book) wantApplied(t *testing.T, l api.Ledger, x api.Tx, proposer api.Addr, burnt uint64, accounts ...api.Account) {
	t.Helper()
	m, e := b.apply(t, l, x, proposer)
	wantLedger(t, "P8.5", m, e, api.Ledger{Accounts: accounts, Releases: l.Releases, Burnt: burnt, Supply: l.Supply})
}

func (b *book) wantNot(t *testing.T, l api.Ledger, x api.Tx, want api.Errno) {
	t.Helper()
	m, e := b.apply(t, l, x, 2)
	wantRefused(t, "P8.4, P8.5", m, e, want)
}

func TestExamplesOfTransactions(t *testing.T) {
	b, l := newBook(t, 1, 2, 3), first(t)
	one, two := l.Accounts[0], l.Accounts[1]
	b.wantApplied(t, l, pay(1, 3, 30, 2, 0), 2, 0,
		api.Account{Addr: 1, Balance: 68, Nonce: 1}, api.Account{Addr: 2, Balance: 2, Bond: 50, Nonce: 7}, api.Account{Addr: 3, Balance: 30})
	paid, _ := b.apply(t, l, pay(1, 3, 30, 2, 0), 2)
	b.wantNot(t, paid, pay(1, 3, 30, 2, 0), api.ErrNonce)
	b.wantNot(t, l, pay(1, 2, 100, 1, 0), api.ErrFunds)
	b.wantApplied(t, l, pay(1, 1, 99, 1, 0), 2, 0, api.Account{Addr: 1, Balance: 99, Nonce: 1}, api.Account{Addr: 2, Balance: 1, Bond: 50, Nonce: 7})
	b.wantApplied(t, l, bond(1, 100, 0, 0), 2, 0, api.Account{Addr: 1, Bond: 100, Nonce: 1}, two)
	m, e := b.apply(t, l, unbond(2, 20, 0, 7), 2)
	wantLedger(t, "P8.5, example", m, e, api.Ledger{
		Accounts: []api.Account{one, {Addr: 2, Bond: 30, Nonce: 8}},
		Releases: []api.Release{{Height: 105, Addr: 2, Born: 5, Amount: 20}},
		Supply:   150,
	})
	m, e = b.apply(t, m, unbond(2, 5, 0, 8), 2)
	wantLedger(t, "P8.5, example", m, e, api.Ledger{
		Accounts: []api.Account{one, {Addr: 2, Bond: 25, Nonce: 9}},
		Releases: []api.Release{{Height: 105, Addr: 2, Born: 5, Amount: 25}},
		Supply:   150,
	})
	b.wantNot(t, l, unbond(2, 51, 0, 7), api.ErrBond)
	b.wantNot(t, l, unbond(2, 0, 0, 7), api.ErrBond)
	jailed := mustNew(t, api.Account{Addr: 2, Bond: 13, Jailed: true})
	b.wantApplied(t, jailed, free(2, 0, 0), 2, 0, api.Account{Addr: 2, Bond: 13, Nonce: 1})
	b.wantNot(t, mustNew(t, api.Account{Addr: 2, Bond: 9, Jailed: true}), free(2, 0, 0), api.ErrBond)
	b.wantApplied(t, l, pay(1, 2, 10, 3, 0), 9, 3, api.Account{Addr: 1, Balance: 87, Nonce: 1}, api.Account{Addr: 2, Balance: 10, Bond: 50, Nonce: 7})
}

// TestKinds: what the examples leave out of what each kind does.
func TestKinds(t *testing.T) {
	b := newBook(t, 1, 2, 5, math.MaxUint64)
	l := mustNew(t, api.Account{Addr: 2, Balance: 40, Bond: 30, Nonce: 3}, api.Account{Addr: 5, Balance: 7, Bond: 10, Nonce: 1, Jailed: true})
	two, five := l.Accounts[0], l.Accounts[1]
	two.Nonce++
	with := func(acc api.Account, balance, bond uint64) api.Account {
		acc.Balance, acc.Bond = balance, bond
		return acc
	}
	for _, to := range []api.Addr{1, 3, 4, 6, math.MaxUint64} {
		for _, amount := range []uint64{0, 9, 38} {
			want := []api.Account{with(two, 40-2-amount, 30), with(five, 9, 10)}
			k := slices.IndexFunc(want, func(acc api.Account) bool { return acc.Addr > to })
			if k < 0 {
				k = len(want)
			}
			b.wantApplied(t, l, pay(2, to, amount, 2, 3), 5, 0, slices.Insert(want, k, api.Account{Addr: to, Balance: amount})...)
		}
	}
	// The account that the payment makes is the proposer's: it is there by then.
	b.wantApplied(t, l, pay(2, 3, 9, 2, 3), 3, 0, with(two, 29, 30), api.Account{Addr: 3, Balance: 11}, five)
	b.wantApplied(t, l, pay(2, 3, 0, 2, 3), 3, 0, with(two, 38, 30), api.Account{Addr: 3, Balance: 2}, five)
	// The sender proposes: the fee comes back to it, but it must have it first.
	b.wantApplied(t, l, pay(2, 5, 35, 5, 3), 2, 0, with(two, 5, 30), with(five, 42, 10))
	m, e := b.apply(t, l, pay(2, 5, 36, 5, 3), 2)
	wantRefused(t, "P8.4: the fee comes back later", m, e, api.ErrFunds)
	b.wantApplied(t, l, pay(2, 2, 40, 0, 3), 2, 0, two, five)
	b.wantApplied(t, l, bond(2, 38, 2, 3), 0, 2, with(two, 0, 68), five)
	b.wantApplied(t, l, bond(2, 0, 40, 3), 5, 0, with(two, 0, 30), with(five, 47, 10))
	out := with(five, 5, 10)
	out.Nonce, out.Jailed = 2, false
	b.wantApplied(t, l, free(5, 2, 1), 2, 0, with(l.Accounts[0], 42, 30), out)
	// Who is in jail may pay, bond and let go.
	in := with(five, 0, 17)
	in.Nonce = 2
	b.wantApplied(t, l, bond(5, 7, 0, 1), 2, 0, l.Accounts[0], in)
	m, e = b.apply(t, l, unbond(5, 10, 7, 1), 77)
	wantLedger(t, "P8.5: all is let go", m, e, api.Ledger{
		Accounts: []api.Account{l.Accounts[0], {Addr: 5, Nonce: 2, Jailed: true}},
		Releases: []api.Release{{Height: 105, Addr: 5, Born: 5, Amount: 10}},
		Burnt:    7, Supply: l.Supply,
	})
}

// TestRowsOfUnbonding: the row goes to its place, and one of the same height and account grows, and no other.
func TestRowsOfUnbonding(t *testing.T) {
	b := newBook(t, 4)
	old := []api.Release{
		{Height: 104, Addr: 4, Born: 4, Amount: 1}, {Height: 105, Addr: 3, Born: 5, Amount: 2}, {Height: 105, Addr: 6, Born: 5, Amount: 3}, {Height: 106, Addr: 4, Born: 2, Amount: 4},
	}
	l := closed(api.Ledger{Accounts: []api.Account{{Addr: 3}, {Addr: 4, Bond: 9}, {Addr: 6}}, Releases: old})
	row := api.Release{Height: 105, Addr: 4, Born: 5, Amount: 7}
	m, e := b.apply(t, l, unbond(4, 7, 0, 0), 3)
	wantLedger(t, "P8.5: its place", m, e, api.Ledger{Accounts: []api.Account{{Addr: 3}, {Addr: 4, Bond: 2, Nonce: 1}, {Addr: 6}}, Releases: slices.Insert(slices.Clone(old), 2, row), Supply: l.Supply})
	m.Releases[2].Born = 3
	n, e := b.apply(t, m, unbond(4, 2, 0, 1), 3)
	row.Amount, row.Born = 9, 3
	wantLedger(t, "P8.5: it grows, and its Born stays", n, e, api.Ledger{Accounts: []api.Account{{Addr: 3}, {Addr: 4, Nonce: 2}, {Addr: 6}}, Releases: slices.Insert(slices.Clone(old), 2, row), Supply: l.Supply})
	for _, c := range []struct{ height, period uint64 }{{5, 0}, {1, api.MaxHeights}, {api.MaxHeight, api.MaxHeights}, {api.MaxHeight, 0}} {
		p := api.Params{Period: c.period}
		l := mustNew(t, api.Account{Addr: 4, Bond: 9})
		m, e := ledger.Apply(l, b.r, name, p, c.height, 3, b.sealed(unbond(4, 9, 0, 0)))
		want := []api.Release{{Height: c.height + c.period, Addr: 4, Born: c.height, Amount: 9}}
		wantLedger(t, "P8.5: its height", m, e, api.Ledger{Accounts: []api.Account{{Addr: 4, Nonce: 1}}, Releases: want, Supply: 9})
		wantErr(t, "P8.12", ledger.Sound(m), api.OK)
	}
}

// TestOrderOfRefusals: each case has one fault less, from the first one on; so the order is P8.4's.
func TestOrderOfRefusals(t *testing.T) {
	b := newBook(t, 1, 2, 3, 4)
	l := mustNew(t, api.Account{Addr: 1, Balance: 5, Bond: 3, Nonce: 2}, api.Account{Addr: 2, Balance: 5, Nonce: math.MaxUint64}, api.Account{Addr: 3, Bond: 9, Jailed: true})
	long := api.Params{MinBond: 10, Period: api.MaxHeights + 1}
	short := api.Params{MinBond: 10, Period: api.MaxHeights}
	forged := unbond(9, 4, 6, 0)
	notPlain := forged
	notPlain.To = 1
	for k, c := range []struct {
		r      *seal.Registry
		chain  string
		p      api.Params
		height uint64
		x      api.Tx
		want   api.Errno
	}{
		{nil, "", long, 0, api.Tx{}, api.ErrNil},
		{new(seal.Registry), "", long, 0, api.Tx{}, api.ErrNil},
		{b.r, "", long, 0, api.Tx{}, api.ErrArg},
		{b.r, "", short, 0, api.Tx{}, api.ErrArg},
		{b.r, "", short, api.MaxHeight + 1, api.Tx{}, api.ErrArg},
		{b.r, "", short, math.MaxUint64, api.Tx{}, api.ErrArg},
		{b.r, "", long, api.MaxHeight, api.Tx{}, api.ErrArg},
		{b.r, "", api.Params{Period: math.MaxUint64}, 1, api.Tx{}, api.ErrArg},
		{b.r, "", short, api.MaxHeight, api.Tx{}, api.ErrField},
		{b.r, "12345678901234567", short, 1, api.Tx{}, api.ErrField},
		{b.r, name, short, api.MaxHeight, api.Tx{}, api.ErrKind},
		{b.r, name, short, 1, notPlain, api.ErrField},
		{b.r, name, short, 1, forged, api.ErrSeal},
		{b.r, name, short, 1, unbond(1, 4, 6, 2), api.ErrSeal},
		{seal.New(), name, short, 1, b.sealed(unbond(1, 3, 5, 2)), api.ErrSeal},
		{b.r, "d", short, 1, b.sealed(unbond(1, 3, 5, 2)), api.ErrSeal},
		{b.r, name, short, 1, b.sealed(unbond(4, 4, 6, 0)), api.ErrNobody},
		{b.r, name, short, 1, b.sealed(unbond(1, 4, 6, 0)), api.ErrNonce},
		{b.r, name, short, 1, b.sealed(unbond(1, 4, 6, 1)), api.ErrNonce},
		{b.r, name, short, 1, b.sealed(unbond(1, 4, 6, 3)), api.ErrNonce},
		{b.r, name, short, 1, b.sealed(unbond(2, 4, 6, math.MaxUint64)), api.ErrNonce},
		{b.r, name, short, 1, b.sealed(pay(2, 1, 0, 0, math.MaxUint64)), api.ErrNonce},
		{b.r, name, short, 1, b.sealed(unbond(1, 4, 6, 2)), api.ErrFunds},
		{b.r, name, short, 1, b.sealed(unbond(1, 4, 5, 2)), api.ErrBond},
		{b.r, name, short, 1, b.sealed(unbond(1, 0, 5, 2)), api.ErrBond},
		{b.r, name, short, 1, b.sealed(unbond(1, 3, 5, 2)), api.OK},
		{b.r, name, short, 1, b.sealed(free(1, 6, 2)), api.ErrFunds},
		{b.r, name, short, 1, b.sealed(free(1, 5, 2)), api.ErrJail},
		{b.r, name, short, 1, b.sealed(free(3, 1, 0)), api.ErrFunds},
		{b.r, name, short, 1, b.sealed(free(3, 0, 0)), api.ErrBond},
		{b.r, name, api.Params{MinBond: 9}, 1, b.sealed(free(3, 0, 0)), api.OK},
		{b.r, name, short, 1, b.sealed(bond(1, 3, 3, 2)), api.ErrFunds},
		{b.r, name, short, 1, b.sealed(bond(1, 2, 3, 2)), api.OK},
		{b.r, name, short, 1, b.sealed(pay(1, 9, 3, 3, 2)), api.ErrFunds},
		{b.r, name, short, 1, b.sealed(pay(1, 9, supply, supply, 2)), api.ErrFunds},
		{b.r, name, short, api.MaxHeight, b.sealed(pay(1, 9, 2, 3, 2)), api.OK},
	} {
		if e := ledger.Check(l, c.r, c.chain, c.p, c.height, c.x); e != c.want {
			t.Errorf("P8.4: case %d: %v: error %d, want %d", k, c.x, e, c.want)
		}
		for _, proposer := range []api.Addr{0, 1, 2, 9, math.MaxUint64} {
			m, e := ledger.Apply(l, c.r, c.chain, c.p, c.height, proposer, c.x)
			if e != c.want || e != api.OK && !sameLedger(m, api.Ledger{}) {
				t.Errorf("P8.5, P8.13: case %d, proposed by %d: %v, error %d, want %d", k, proposer, m, e, c.want)
			}
		}
	}
}

// TestSeals: none but the very seal of the very transaction is taken.
func TestSeals(t *testing.T) {
	b, l := newBook(t, 1, 2), first(t)
	x := b.sealed(pay(1, 2, 5, 1, 0))
	wantErr(t, "P8.4: sealed rightly", ledger.Check(l, b.r, name, params, 5, x), api.OK)
	for what, spoil := range map[string]func(*api.Tx){
		"another kind":    func(x *api.Tx) { x.Kind, x.To = api.TxBond, 0 },
		"another sender":  func(x *api.Tx) { x.From = 2 },
		"to another":      func(x *api.Tx) { x.To = 3 },
		"another amount":  func(x *api.Tx) { x.Amount++ },
		"another fee":     func(x *api.Tx) { x.Fee++ },
		"another nonce":   func(x *api.Tx) { x.Nonce++ },
		"another seal":    func(x *api.Tx) { x.Seal[15] ^= 1 },
		"no seal":         func(x *api.Tx) { x.Seal = api.Seal{} },
		"another's seal":  func(x *api.Tx) { x.Seal = b.sealed(pay(2, 2, 5, 1, 0)).Seal },
		"one of before":   func(x *api.Tx) { x.Seal = b.sealed(pay(1, 2, 4, 1, 0)).Seal },
		"one not entered": func(x *api.Tx) { x.From = 7 },
	} {
		y := x
		spoil(&y)
		wantErr(t, "P8.4: "+what, ledger.Check(l, b.r, name, params, 5, y), api.ErrSeal)
	}
}

func TestNoRegistry(t *testing.T) {
	b, l := newBook(t, 1, 2), first(t)
	x := b.sealed(pay(1, 2, 5, 1, 0))
	copied := reflect.New(reflect.TypeOf(seal.Registry{}))
	copied.Elem().Set(reflect.ValueOf(b.r).Elem())
	for _, r := range []*seal.Registry{nil, {}, copied.Interface().(*seal.Registry)} {
		for _, in := range []api.Ledger{l, {}, {Accounts: make([]api.Account, 3), Burnt: math.MaxUint64}} {
			wantErr(t, "G1, P8.4", ledger.Check(in, r, name, params, 5, x), api.ErrNil)
			m, e := ledger.Apply(in, r, name, params, 5, 2, x)
			wantRefused(t, "G1, P8.5", m, e, api.ErrNil)
		}
	}
	if b.r.Count() != 1 || b.r.Known(0) {
		t.Errorf("P8.4: the registry has been changed")
	}
	r := seal.New()
	wantErr(t, "P8.4: a registry of nobody", ledger.Check(l, r, name, params, 5, x), api.ErrSeal)
	for _, a := range everybody {
		if _, e := r.Enter(a); e != api.OK {
			t.Errorf("P8.4: Check has entered %d", a)
		}
	}
}

func TestNonceAtItsEnd(t *testing.T) {
	b := newBook(t, 1)
	l := mustNew(t, api.Account{Addr: 1, Balance: 5, Nonce: math.MaxUint64 - 1})
	b.wantApplied(t, l, pay(1, 1, 0, 0, math.MaxUint64-1), 0, 0, api.Account{Addr: 1, Balance: 5, Nonce: math.MaxUint64})
	m, _ := b.apply(t, l, pay(1, 1, 0, 0, math.MaxUint64-1), 0)
	for _, n := range []uint64{0, 1, math.MaxUint64 - 1, math.MaxUint64} {
		b.wantNot(t, m, pay(1, 1, 0, 0, n), api.ErrNonce)
	}
}

func TestCrowdOfAccounts(t *testing.T) {
	b := newBook(t, 2)
	list := many(65536, 9)
	for k := range list {
		list[k].Addr *= 2 // so that there is a place ahead of each
	}
	l := mustNew(t, list...)
	for _, to := range []api.Addr{1, 3, 131073, math.MaxUint64} {
		b.wantNot(t, l, pay(2, to, 0, 9, 0), api.ErrCrowd)
		b.wantNot(t, l, pay(2, to, 1, 9, 0), api.ErrFunds)
	}
	m, e := b.apply(t, l, pay(2, 131072, 4, 5, 0), 4)
	want := slices.Clone(list)
	want[0], want[1].Balance, want[65535].Balance = api.Account{Addr: 2, Nonce: 1}, 14, 13
	wantLedger(t, "P8.5: to one of a full list", m, e, api.Ledger{Accounts: want, Supply: l.Supply})
	l = mustNew(t, list[:65535]...)
	m, e = b.apply(t, l, pay(2, 131072, 4, 5, 0), 131072)
	want[1].Balance, want[65535].Balance = 9, 9
	wantLedger(t, "P8.5: the last one that there is room for", m, e, api.Ledger{Accounts: want, Supply: l.Supply})
	b.wantNot(t, m, pay(2, 7, 0, 0, 1), api.ErrCrowd)
}

func TestCrowdOfRows(t *testing.T) {
	b := newBook(t, 1, 2)
	accounts := []api.Account{{Addr: 1, Bond: 20}, {Addr: 2, Bond: 20}}
	full := closed(api.Ledger{Accounts: accounts, Releases: manyRows(65536, 106)})
	b.wantNot(t, full, unbond(1, 1, 0, 0), api.ErrCrowd)
	b.wantNot(t, full, unbond(2, 20, 0, 0), api.ErrCrowd)
	b.wantNot(t, full, unbond(2, 21, 0, 0), api.ErrBond)
	b.wantNot(t, full, unbond(2, 0, 0, 0), api.ErrBond)
	b.wantNot(t, full, unbond(2, 1, 1, 0), api.ErrFunds)
	full = closed(api.Ledger{Accounts: accounts, Releases: manyRows(65536, 105)})
	b.wantNot(t, full, unbond(2, 20, 0, 0), api.ErrCrowd)
	m, e := b.apply(t, full, unbond(1, 20, 0, 0), 2)
	want := manyRows(65536, 105)
	want[0].Amount = 21
	wantLedger(t, "P8.5: one that is there grows", m, e, api.Ledger{Accounts: []api.Account{{Addr: 1, Nonce: 1}, accounts[1]}, Releases: want, Supply: full.Supply})
	room := closed(api.Ledger{Accounts: accounts, Releases: manyRows(65535, 106)})
	m, e = b.apply(t, room, unbond(1, 1, 0, 0), 2)
	want = manyRows(65536, 105)
	want[0].Born = 5
	wantLedger(t, "P8.5: the last one that there is room for", m, e, api.Ledger{Accounts: []api.Account{{Addr: 1, Bond: 19, Nonce: 1}, accounts[1]}, Releases: want, Supply: room.Supply})
}

// changedAccounts are the addresses whose accounts are not the same in both.
func changedAccounts(l, m api.Ledger) (out []api.Addr) {
	x, y := heapOf(l).accounts, heapOf(m).accounts
	for a := range y {
		if x[a] != y[a] {
			out = append(out, a)
		}
	}
	for a := range x {
		if _, ok := y[a]; !ok {
			out = append(out, a)
		}
	}
	return out
}

// changedRows are the keys whose rows are not the same in both.
func changedRows(l, m api.Ledger) (out []due) {
	x, y := heapOf(l).rows, heapOf(m).rows
	for k := range y {
		if x[k] != y[k] {
			out = append(out, k)
		}
	}
	for k := range x {
		if _, ok := y[k]; !ok {
			out = append(out, k)
		}
	}
	return out
}

func allBut[T comparable](list []T, may ...T) bool {
	return !slices.ContainsFunc(list, func(x T) bool { return !slices.Contains(may, x) })
}

var everybody = []api.Addr{1, 2, 3, 4, 5, 6, 7, 8, 9, 10, 11, 12, 13, 14, math.MaxUint64}

// TestApplyOfAnything holds Check and Apply against the model.
func TestApplyOfAnything(t *testing.T) {
	r := rand.New(rand.NewSource(83))
	b := newBook(t, everybody[:11]...)
	seen := map[api.Errno]int{}
	for range 40000 {
		l := someSound(r)
		x := someTx(r, l)
		p := api.Params{MinBond: uint64(r.Intn(30)), Period: uint64(r.Intn(12))}
		height, chain := uint64(1+r.Intn(20)), name
		switch r.Intn(60) {
		case 0:
			height = []uint64{0, api.MaxHeight, api.MaxHeight + 1, math.MaxUint64}[r.Intn(4)]
		case 1:
			p.Period = []uint64{api.MaxHeights, api.MaxHeights + 1, math.MaxUint64}[r.Intn(3)]
		case 2:
			chain = ""
		}
		y, right := b.sealed(x), r.Intn(30) > 0 && b.signers[x.From] != nil
		if !right {
			y.Seal[3]++
		}
		proposer := api.Addr(r.Intn(15))
		want := modelCheck(l, chain, p, height, y, right)
		seen[want]++
		wantErr(t, "P8.4", ledger.Check(l, b.r, chain, p, height, y), want)
		m, e := ledger.Apply(l, b.r, chain, p, height, proposer, y)
		if want != api.OK {
			wantRefused(t, "P8.5", m, e, want)
		} else {
			wantLedger(t, "P8.5", m, e, modelApply(l, p, height, proposer, y))
			wantErr(t, "P8.12", ledger.Sound(m), api.OK)
			wantErr(t, "P8.13", ledger.Check(m, b.r, chain, p, height, y), api.ErrNonce)
			if m.Supply != l.Supply || !allBut(changedAccounts(l, m), x.From, x.To, proposer) || !allBut(changedRows(l, m), due{height + p.Period, x.From}) {
				t.Errorf("P8.12, P8.14: %v", m)
			}
		}
		if t.Failed() {
			t.Fatalf("of %v, %v at %d, proposed by %d, with %v", l, y, height, proposer, p)
		}
	}
	for _, e := range []api.Errno{api.OK, api.ErrArg, api.ErrKind, api.ErrField, api.ErrSeal, api.ErrNobody, api.ErrNonce, api.ErrFunds, api.ErrBond, api.ErrJail} {
		if seen[e] < 50 {
			t.Errorf("only %d of the transactions were of error %d", seen[e], e)
		}
	}
}

// TestBothOrders: two transactions of unlike senders leave the same, whichever comes first.
func TestBothOrders(t *testing.T) {
	r := rand.New(rand.NewSource(84))
	b := newBook(t, everybody...)
	both := 0
	for range 40000 {
		l := someSound(r)
		if len(l.Accounts) < 2 {
			continue
		}
		proposer := l.Accounts[r.Intn(len(l.Accounts))].Addr
		x, y := b.sealed(someTx(r, l)), b.sealed(someTx(r, l))
		if x.From == y.From {
			continue
		}
		play := func(first, second api.Tx) (api.Ledger, bool) {
			m, e := ledger.Apply(l, b.r, name, params, 5, proposer, first)
			n, f := ledger.Apply(m, b.r, name, params, 5, proposer, second)
			return n, e == api.OK && f == api.OK
		}
		m, ok := play(x, y)
		n, too := play(y, x)
		if ok && too {
			both++
			if !sameLedger(m, n) {
				t.Fatalf("P8.15: %v: %v and %v: %v, or %v", l, x, y, m, n)
			}
		}
	}
	if both < 5000 {
		t.Errorf("only %d pairs were taken in both orders", both)
	}
}

// TestLives plays ledgers through many blocks: all stays sound, no supply is made or lost, nothing is taken twice.
func TestLives(t *testing.T) {
	for seed := range int64(30) {
		r := rand.New(rand.NewSource(seed))
		b := newBook(t, everybody...)
		l := someSound(r)
		p := api.Params{MinBond: 5, Slash: []uint64{0, 1, 333, 500, 999, 1000}[r.Intn(6)], Period: uint64(r.Intn(9))}
		var taken []api.Tx
		for height := uint64(1); height <= 60; height++ {
			was := l
			step := func(m api.Ledger, e api.Errno) {
				if e != api.OK {
					return
				}
				wantErr(t, "P8.12", ledger.Sound(m), api.OK)
				if m.Supply != was.Supply || m.Burnt < l.Burnt {
					t.Errorf("P8.12: %v behind %v", m, l)
				}
				l = m
			}
			step(ledger.Pay(l, height))
			if r.Intn(5) == 0 {
				step(ledger.Punish(l, p, api.Addr(1+r.Intn(12)), max(1, height-uint64(r.Intn(4)))))
			}
			for range 6 {
				x := b.sealed(someTx(r, l))
				m, e := ledger.Apply(l, b.r, name, p, height, api.Addr(r.Intn(14)), x)
				step(m, e)
				if e == api.OK {
					taken = append(taken, x)
				}
			}
			for _, x := range taken {
				wantErr(t, "P8.13: for ever", ledger.Check(l, b.r, name, p, height, x), api.ErrNonce)
			}
			if t.Failed() {
				t.Fatalf("seed %d, height %d", seed, height)
			}
		}
	}
}
