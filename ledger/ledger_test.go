package ledger_test

import (
	"math"
	"math/rand"
	"slices"
	"testing"

	"assent/api"
	"assent/ledger"
)

func mustNew(t *testing.T, accounts ...api.Account) api.Ledger {
	t.Helper()
	l, e := ledger.New(accounts)
	if e != api.OK {
		t.Fatalf("P8.2: New of %v: error %d", accounts, e)
	}
	return l
}

// first is the examples' first ledger.
func first(t *testing.T) api.Ledger {
	t.Helper()
	return mustNew(t, api.Account{Addr: 1, Balance: 100}, api.Account{Addr: 2, Bond: 50, Nonce: 7})
}

// many are n accounts with one balance each, with the addresses 1 to n.
func many(n int, balance uint64) []api.Account {
	list := make([]api.Account, n)
	for k := range list {
		list[k] = api.Account{Addr: api.Addr(k + 1), Balance: balance}
	}
	return list
}

// manyRows are n rows of the account 1 with the heights first, first + 1, ..
func manyRows(n int, first uint64) []api.Release {
	rows := make([]api.Release, n)
	for k := range rows {
		rows[k] = api.Release{Height: first + uint64(k), Addr: 1, Born: 1, Amount: 1}
	}
	return rows
}

// wrongAccounts are refused by New, and by Sound of a ledger with them.
var wrongAccounts = []struct {
	what string
	list []api.Account
	want api.Errno
}{
	{"nobody", []api.Account{{Balance: 1}}, api.ErrNobody},
	{"nobody with too much", []api.Account{{Balance: supply + 1}}, api.ErrNobody},
	{"nobody behind another", []api.Account{{Addr: 1}, {Addr: 0}}, api.ErrNobody},
	{"nobody twice", []api.Account{{}, {}}, api.ErrNobody},
	{"twice", []api.Account{{Addr: 3}, {Addr: 3}}, api.ErrOrder},
	{"twice, with too much", []api.Account{{Addr: 3}, {Addr: 3, Bond: supply + 1}}, api.ErrOrder},
	{"falling", []api.Account{{Addr: 3}, {Addr: 2}}, api.ErrOrder},
	{"the last one falls", []api.Account{{Addr: 1}, {Addr: 2}, {Addr: 9}, {Addr: 8}}, api.ErrOrder},
	{"behind the greatest", []api.Account{{Addr: math.MaxUint64}, {Addr: 1}}, api.ErrOrder},
	{"a balance one too great", []api.Account{{Addr: 1, Balance: supply + 1}}, api.ErrSum},
	{"a bond one too great", []api.Account{{Addr: 1, Bond: supply + 1}}, api.ErrSum},
	{"the greatest balance", []api.Account{{Addr: 1, Balance: math.MaxUint64}}, api.ErrSum},
	{"a bond that would wrap", []api.Account{{Addr: 1, Balance: 2}, {Addr: 2, Bond: math.MaxUint64}}, api.ErrSum},
	{"too much ahead of nobody", []api.Account{{Addr: 1, Bond: supply + 1}, {}}, api.ErrSum},
	{"too much ahead of a falling one", []api.Account{{Addr: 2, Bond: supply + 1}, {Addr: 1}}, api.ErrSum},
	{"nobody ahead of too much", []api.Account{{}, {Addr: 1, Balance: supply + 1}}, api.ErrNobody},
	{"falling ahead of nobody", []api.Account{{Addr: 2}, {Addr: 1}, {}}, api.ErrOrder},
	{"together one too much", []api.Account{{Addr: 1, Balance: supply, Bond: 1}}, api.ErrSum},
	{"together one too much, of two", []api.Account{{Addr: 1, Balance: supply}, {Addr: 2, Bond: 1}}, api.ErrSum},
	{"16 times 2^60 - 1 and 16", append(many(16, supply), api.Account{Addr: 17, Balance: 16}), api.ErrSum},
	{"32 times 2^59: the sum wraps to 0", many(32, 1<<59), api.ErrSum},
	{"33 times 2^59: the sum wraps", many(33, 1<<59), api.ErrSum},
	{"65536 that are together one too much", many(65536, 1<<44), api.ErrSum},
	{"65536 times all", many(65536, supply), api.ErrSum},
	{"65537 accounts", many(65537, 0), api.ErrCrowd},
	{"65537 times nobody with too much", slices.Repeat([]api.Account{{Balance: math.MaxUint64}}, 65537), api.ErrCrowd},
	{"65536 times nobody", make([]api.Account, 65536), api.ErrNobody},
}

func TestNewRefuses(t *testing.T) {
	for _, c := range wrongAccounts {
		got, e := ledger.New(c.list)
		wantRefused(t, "P8.2: New of "+c.what, got, e, c.want)
		for _, s := range []uint64{0, 16, 1 << 59, supply, math.MaxUint64, closed(api.Ledger{Accounts: c.list}).Supply} {
			wantErr(t, "P8.1: Sound of "+c.what, ledger.Sound(api.Ledger{Accounts: c.list, Supply: s}), c.want)
		}
	}
}

func TestNew(t *testing.T) {
	all := many(65536, 1<<44)
	all[65535].Balance--
	for _, list := range [][]api.Account{
		nil,
		{},
		{{Addr: 1, Balance: 100}, {Addr: 2, Bond: 50, Nonce: 7}},
		{{Addr: 5}},
		{{Addr: 1, Balance: supply}},
		{{Addr: math.MaxUint64, Bond: supply}},
		{{Addr: 1, Balance: supply - 2, Bond: 1}, {Addr: math.MaxUint64, Bond: 1, Nonce: math.MaxUint64, Jailed: true}},
		{{Addr: 3, Nonce: math.MaxUint64}, {Addr: 4, Jailed: true, Bond: 3}},
		all,
	} {
		got, e := ledger.New(list)
		wantLedger(t, "P8.2", got, e, closed(api.Ledger{Accounts: list}))
		wantErr(t, "P8.12: what New answers is sound", ledger.Sound(got), api.OK)
	}
	if l := first(t); l.Supply != 150 || l.Burnt != 0 || len(l.Releases) != 0 {
		t.Errorf("P8.2, example: %v", l)
	}
}

// TestSoundOfRows: each of these is put behind a good row (of Height 50, Addr 3), between good accounts 2, 3 and 5.
func TestSoundOfRows(t *testing.T) {
	accounts := []api.Account{{Addr: 2, Balance: 5}, {Addr: 3, Bond: 6}, {Addr: 5}}
	ahead := api.Release{Height: 50, Addr: 3, Born: 2, Amount: 4}
	const last = api.MaxHeight + api.MaxHeights
	for _, c := range []struct {
		what string
		row  api.Release
		want api.Errno
	}{
		{"a later one", api.Release{Height: 51, Addr: 2, Born: 51, Amount: 1}, api.OK},
		{"a greater address", api.Release{Height: 50, Addr: 5, Born: 50, Amount: 1}, api.OK},
		{"born in the beginning", api.Release{Height: 51, Addr: 2, Amount: 1}, api.OK},
		{"the last heights", api.Release{Height: last, Addr: 2, Born: api.MaxHeight, Amount: 1}, api.OK},
		{"all", api.Release{Height: 51, Addr: 2, Born: 1, Amount: supply - 15}, api.OK},
		{"address 0", api.Release{Height: 51, Addr: 0, Born: 51, Amount: 1}, api.ErrNobody},
		{"no account", api.Release{Height: 51, Addr: 4, Born: 51, Amount: 1}, api.ErrNobody},
		{"no account ahead of all", api.Release{Height: 51, Addr: 1, Born: 51, Amount: 1}, api.ErrNobody},
		{"no account behind all", api.Release{Height: 51, Addr: math.MaxUint64, Born: 51, Amount: 1}, api.ErrNobody},
		{"no account, and all else wrong", api.Release{Height: 0, Addr: 4, Born: api.MaxHeight + 1}, api.ErrNobody},
		{"born too late", api.Release{Height: last, Addr: 2, Born: api.MaxHeight + 1, Amount: 1}, api.ErrArg},
		{"due ahead of its birth", api.Release{Height: 51, Addr: 2, Born: 52, Amount: 1}, api.ErrArg},
		{"due too late", api.Release{Height: last + 1, Addr: 2, Born: 1, Amount: 1}, api.ErrArg},
		{"the greatest numbers", api.Release{Height: math.MaxUint64, Addr: 2, Born: math.MaxUint64, Amount: 1}, api.ErrArg},
		{"due ahead of its birth, out of order, of nothing", api.Release{Height: 1, Addr: 2, Born: 2}, api.ErrArg},
		{"the same", ahead, api.ErrOrder},
		{"the same height and address", api.Release{Height: 50, Addr: 3, Born: 3, Amount: 5}, api.ErrOrder},
		{"a lesser address", api.Release{Height: 50, Addr: 2, Born: 1, Amount: 1}, api.ErrOrder},
		{"a lesser height", api.Release{Height: 49, Addr: 5, Born: 1, Amount: 1}, api.ErrOrder},
		{"a lesser height, of nothing", api.Release{Height: 49, Addr: 5, Born: 1}, api.ErrOrder},
		{"nothing", api.Release{Height: 51, Addr: 2, Born: 1}, api.ErrSum},
		{"too much", api.Release{Height: 51, Addr: 2, Born: 1, Amount: supply + 1}, api.ErrSum},
		{"much too much", api.Release{Height: 51, Addr: 2, Born: 1, Amount: math.MaxUint64}, api.ErrSum},
		{"together too much", api.Release{Height: 51, Addr: 2, Born: 1, Amount: supply - 14}, api.ErrSum},
	} {
		l := closed(api.Ledger{Accounts: accounts, Releases: []api.Release{ahead, c.row}})
		wantErr(t, "P8.1: a row: "+c.what, ledger.Sound(l), c.want)
		l.Supply++
		if c.want == api.OK {
			c.want = api.ErrSum
		}
		wantErr(t, "P8.1: the sum is looked at last: "+c.what, ledger.Sound(l), c.want)
		l.Accounts = []api.Account{{Addr: 2}, {Addr: 3}, {Addr: 5, Bond: supply + 1}}
		wantErr(t, "P8.1: accounts are looked at ahead of rows: "+c.what, ledger.Sound(l), api.ErrSum)
		l.Accounts = []api.Account{{Addr: 2}, {Addr: 5}, {Addr: 3}}
		wantErr(t, "P8.1: accounts are looked at ahead of rows: "+c.what, ledger.Sound(l), api.ErrOrder)
	}
	wantErr(t, "P8.1: a first row of Height 0", ledger.Sound(api.Ledger{Accounts: many(1, 0), Releases: []api.Release{{Addr: 1, Amount: 1}}, Supply: 1}), api.OK)
	two := []api.Release{{Height: 5, Addr: 9, Born: 1, Amount: 1}, {Height: 4, Addr: 1, Born: 9}}
	wantErr(t, "P8.1: rows from the first one on", ledger.Sound(closed(api.Ledger{Accounts: many(1, 0), Releases: two})), api.ErrNobody)
	two[0] = api.Release{Height: 5, Addr: 1, Born: 1}
	wantErr(t, "P8.1: rows from the first one on", ledger.Sound(closed(api.Ledger{Accounts: many(1, 0), Releases: two})), api.ErrSum)
}

func TestSoundOfSums(t *testing.T) {
	l := api.Ledger{
		Accounts: []api.Account{{Addr: 1, Balance: 10, Bond: 20}, {Addr: 4, Balance: 1}},
		Releases: []api.Release{{Height: 9, Addr: 4, Born: 3, Amount: 5}},
		Burnt:    7,
		Supply:   43,
	}
	wantErr(t, "P8.1", ledger.Sound(l), api.OK)
	for what, spoil := range map[string]func(*api.Ledger){
		"Supply one more":           func(l *api.Ledger) { l.Supply++ },
		"Supply one less":           func(l *api.Ledger) { l.Supply-- },
		"Supply 0":                  func(l *api.Ledger) { l.Supply = 0 },
		"Burnt one more":            func(l *api.Ledger) { l.Burnt++ },
		"Burnt one less":            func(l *api.Ledger) { l.Burnt-- },
		"Burnt wraps the sum round": func(l *api.Ledger) { l.Burnt, l.Supply = math.MaxUint64, 35 },
		"Burnt wraps the sum to 0":  func(l *api.Ledger) { l.Burnt, l.Supply = math.MaxUint64-35, 0 },
		"the greatest Burnt":        func(l *api.Ledger) { l.Burnt, l.Supply = math.MaxUint64, math.MaxUint64 },
		"a balance one more":        func(l *api.Ledger) { l.Accounts[1].Balance++ },
		"a bond one less":           func(l *api.Ledger) { l.Accounts[0].Bond-- },
		"a row's amount one more":   func(l *api.Ledger) { l.Releases[0].Amount++ },
		"Supply too great":          func(l *api.Ledger) { l.Accounts[0].Balance, l.Supply = supply, supply+33 },
		"Supply one too great":      func(l *api.Ledger) { l.Burnt, l.Supply = supply+1-36, supply+1 },
	} {
		m := copyOf(l)
		spoil(&m)
		wantErr(t, "P8.1: "+what, ledger.Sound(m), api.ErrSum)
	}
	l.Burnt, l.Supply = supply-36, supply
	wantErr(t, "P8.1: the greatest supply", ledger.Sound(l), api.OK)
	wantErr(t, "P8.1: nothing", ledger.Sound(api.Ledger{}), api.OK)
	wantErr(t, "P8.1: all is burnt", ledger.Sound(api.Ledger{Burnt: supply, Supply: supply}), api.OK)
	wantErr(t, "P8.1: too much is burnt", ledger.Sound(api.Ledger{Burnt: supply + 1, Supply: supply + 1}), api.ErrSum)
	rows := manyRows(40, 7)
	for k := range rows {
		rows[k].Amount = supply
	}
	wantErr(t, "P8.1: the sum of rows wraps", ledger.Sound(closed(api.Ledger{Accounts: many(1, 0), Releases: rows})), api.ErrSum)
}

func TestSoundOfCrowds(t *testing.T) {
	wantErr(t, "P8.1: 65536 of both", ledger.Sound(closed(api.Ledger{Accounts: many(65536, 3), Releases: manyRows(65536, 9)})), api.OK)
	wantErr(t, "P8.1: 65537 rows", ledger.Sound(closed(api.Ledger{Accounts: many(1, 0), Releases: manyRows(65537, 9)})), api.ErrCrowd)
	wantErr(t, "P8.1: 65537 rows beside nobody", ledger.Sound(api.Ledger{Accounts: make([]api.Account, 2), Releases: make([]api.Release, 65537)}), api.ErrCrowd)
	wantErr(t, "P8.1: 65537 accounts beside a bad row", ledger.Sound(api.Ledger{Accounts: many(65537, 0), Releases: make([]api.Release, 1)}), api.ErrCrowd)
}

// TestSoundOfAnything holds Sound and New against the model, at ledgers of which something is spoilt.
func TestSoundOfAnything(t *testing.T) {
	r := rand.New(rand.NewSource(81))
	seen := map[api.Errno]int{}
	for range 20000 {
		l := someSound(r)
		for range r.Intn(3) {
			spoilOne(r, &l)
		}
		want := modelSound(l)
		seen[want]++
		wantErr(t, "P8.1", ledger.Sound(l), want)
		made, e := ledger.New(l.Accounts)
		begun := closed(api.Ledger{Accounts: l.Accounts})
		if want := modelSound(begun); want != api.OK {
			wantRefused(t, "P8.2", made, e, want)
		} else {
			wantLedger(t, "P8.2", made, e, begun)
		}
		if t.Failed() {
			t.Fatalf("of %v", l)
		}
	}
	for _, e := range []api.Errno{api.OK, api.ErrNobody, api.ErrOrder, api.ErrSum, api.ErrArg} {
		if seen[e] < 100 {
			t.Errorf("only %d of the ledgers were of error %d", seen[e], e)
		}
	}
}

// spoilOne changes one thing of a ledger, mostly for the worse.
func spoilOne(r *rand.Rand, l *api.Ledger) {
	odd := []uint64{0, 1, 5, supply, supply + 1, 1 << 40, 1<<40 + 1, 1<<40 + 1<<32, 1<<40 + 1<<32 + 1, math.MaxUint64}[r.Intn(10)]
	if n := len(l.Accounts); n > 0 && r.Intn(2) == 0 {
		acc := &l.Accounts[r.Intn(n)]
		switch r.Intn(5) {
		case 0:
			acc.Addr = api.Addr(odd)
		case 1:
			acc.Balance = odd
		case 2:
			acc.Bond = odd
		case 3:
			l.Accounts = slices.Delete(l.Accounts, n-1, n)
		case 4:
			k := r.Intn(n)
			l.Accounts[k], *acc = *acc, l.Accounts[k]
		}
		return
	}
	if n := len(l.Releases); n > 0 && r.Intn(4) > 0 {
		row := &l.Releases[r.Intn(n)]
		switch r.Intn(5) {
		case 0:
			row.Addr = api.Addr(odd)
		case 1:
			row.Height = odd
		case 2:
			row.Born = odd
		case 3:
			row.Amount = odd
		case 4:
			k := r.Intn(n)
			l.Releases[k], *row = *row, l.Releases[k]
		}
		return
	}
	switch r.Intn(3) {
	case 0:
		l.Burnt = odd
	case 1:
		l.Supply = odd
	case 2:
		*l = closed(*l)
	}
}

func TestFind(t *testing.T) {
	l := mustNew(t, api.Account{Addr: 2, Balance: 4}, api.Account{Addr: 3, Bond: 5, Jailed: true}, api.Account{Addr: math.MaxUint64, Nonce: 6})
	for _, acc := range l.Accounts {
		if got, e := ledger.Find(l, acc.Addr); e != api.OK || got != acc {
			t.Errorf("P8.3: %v, error %d, want %v", got, e, acc)
		}
	}
	for _, a := range []api.Addr{0, 1, 4, math.MaxUint64 - 1} {
		if got, e := ledger.Find(l, a); e != api.ErrNobody || got != (api.Account{}) {
			t.Errorf("P8.3: of %d: %v, error %d", a, got, e)
		}
	}
	if got, e := ledger.Find(api.Ledger{}, 1); e != api.ErrNobody || got != (api.Account{}) {
		t.Errorf("P8.3: of no accounts: %v, error %d", got, e)
	}
}

// TestFindInAnyLedger: Find is promised of ledgers that are not sound, too: the first one with that address.
func TestFindInAnyLedger(t *testing.T) {
	r := rand.New(rand.NewSource(82))
	for range 2000 {
		l := api.Ledger{Supply: 3}
		for range r.Intn(9) {
			l.Accounts = append(l.Accounts, api.Account{Addr: api.Addr(r.Intn(6)), Balance: r.Uint64()})
		}
		for a := range api.Addr(7) {
			want, wrong := api.Account{}, api.ErrNobody
			for k := len(l.Accounts) - 1; k >= 0; k-- {
				if l.Accounts[k].Addr == a && a != 0 {
					want, wrong = l.Accounts[k], api.OK
				}
			}
			if got, e := ledger.Find(l, a); e != wrong || got != want {
				t.Fatalf("P8.3: Find of %d in %v: %v, error %d", a, l, got, e)
			}
		}
	}
	big := many(70000, 1)
	big[3].Addr = 69999
	if got, e := ledger.Find(api.Ledger{Accounts: big}, 70000); e != api.OK || got != big[69999] {
		t.Errorf("P8.3: the last of 70000: %v, error %d", got, e)
	}
	if got, e := ledger.Find(api.Ledger{Accounts: big}, 69999); e != api.OK || got != big[3] {
		t.Errorf("P8.3: the first one with that address: %v, error %d", got, e)
	}
}
