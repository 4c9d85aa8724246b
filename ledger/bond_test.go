package ledger_test

import (
	"math"
	"math/rand"
	"slices"
	"testing"

	"assent/api"
	"assent/council"
	"assent/ledger"
)

// unbonding is the examples' ledger behind the two unbondings of 2.
func unbonding() api.Ledger {
	return api.Ledger{
		Accounts: []api.Account{{Addr: 1, Balance: 100}, {Addr: 2, Bond: 25, Nonce: 9}},
		Releases: []api.Release{{Height: 105, Addr: 2, Born: 5, Amount: 25}},
		Supply:   150,
	}
}

func TestExamplesOfPunishing(t *testing.T) {
	want := unbonding()
	want.Accounts[1] = api.Account{Addr: 2, Bond: 13, Nonce: 9, Jailed: true}
	want.Burnt = 12
	got, e := ledger.Punish(unbonding(), params, 2, 7)
	wantLedger(t, "P8.6, example: at 7 the row stays", got, e, want)
	want.Releases[0].Amount, want.Burnt = 13, 24
	got, e = ledger.Punish(unbonding(), params, 2, 6)
	wantLedger(t, "P8.6, example", got, e, want)
	got, e = ledger.Punish(unbonding(), params, 2, 1)
	wantLedger(t, "P8.6: of an earlier height", got, e, want)
	want.Accounts[1].Bond, want.Releases[0].Amount, want.Burnt = 7, 7, 36
	got, e = ledger.Punish(got, params, 2, 6)
	wantLedger(t, "P8.6: once more", got, e, want)
}

func TestPunishRefuses(t *testing.T) {
	hard := api.Params{Slash: 1001}
	for _, c := range []struct {
		p      api.Params
		a      api.Addr
		height uint64
		want   api.Errno
	}{
		{hard, 2, 1, api.ErrArg},
		{api.Params{Slash: math.MaxUint64}, 2, 1, api.ErrArg},
		{params, 2, 0, api.ErrArg},
		{params, 9, 0, api.ErrArg},
		{hard, 9, 1, api.ErrArg},
		{params, 2, api.MaxHeight + 1, api.ErrArg},
		{params, 2, math.MaxUint64, api.ErrArg},
		{params, 9, 1, api.ErrNobody},
		{params, 0, 1, api.ErrNobody},
		{params, math.MaxUint64, api.MaxHeight, api.ErrNobody},
	} {
		got, e := ledger.Punish(unbonding(), c.p, c.a, c.height)
		wantRefused(t, "P8.6", got, e, c.want)
	}
	got, e := ledger.Punish(api.Ledger{}, params, 1, 1)
	wantRefused(t, "P8.6: of nobody at all", got, e, api.ErrNobody)
	if _, e := ledger.Punish(unbonding(), api.Params{Slash: 1000}, 2, api.MaxHeight); e != api.OK {
		t.Errorf("P8.6: at the edges: error %d", e)
	}
}

// TestPunishedRows: which of the rows are punished, and which go; those of others stay.
func TestPunishedRows(t *testing.T) {
	l := closed(api.Ledger{
		Accounts: []api.Account{{Addr: 2, Bond: 1001, Balance: 6}, {Addr: 3, Bond: 9, Balance: 6, Jailed: true}},
		Releases: []api.Release{
			{Height: 20, Addr: 2, Born: 8, Amount: 10}, {Height: 20, Addr: 3, Born: 9, Amount: 10}, {Height: 21, Addr: 2, Born: 9, Amount: 1},
			{Height: 22, Addr: 2, Born: 10, Amount: 1999}, {Height: 23, Addr: 2, Born: 7, Amount: 4}, {Height: 24, Addr: 2, Born: 11, Amount: 3},
		},
	})
	for _, c := range []struct {
		slash, bond uint64
		amounts     [6]uint64 // 0: the row goes
		burnt       uint64
	}{
		{0, 1001, [6]uint64{10, 10, 1, 1999, 4, 3}, 0},
		{1, 1000, [6]uint64{10, 10, 1, 1998, 4, 3}, 2},
		{333, 668, [6]uint64{10, 10, 1, 1334, 4, 3}, 333 + 665},
		{334, 667, [6]uint64{10, 10, 1, 1332, 4, 2}, 334 + 667 + 1},
		{500, 501, [6]uint64{10, 10, 1, 1000, 4, 2}, 500 + 999 + 1},
		{999, 2, [6]uint64{10, 10, 1, 2, 4, 1}, 999 + 1997 + 2},
		{1000, 0, [6]uint64{10, 10, 0, 0, 4, 0}, 1001 + 1 + 1999 + 3},
	} {
		want := copyOf(l)
		want.Accounts[0].Bond, want.Accounts[0].Jailed, want.Burnt, want.Releases = c.bond, true, c.burnt, nil
		for k, row := range l.Releases {
			if row.Amount = c.amounts[k]; row.Amount > 0 {
				want.Releases = append(want.Releases, row)
			}
		}
		got, e := ledger.Punish(l, api.Params{Slash: c.slash}, 2, 10)
		wantLedger(t, "P8.6", got, e, want)
		wantErr(t, "P8.12", ledger.Sound(got), api.OK)
	}
	got, e := ledger.Punish(l, api.Params{Slash: 1000}, 3, 11)
	want := copyOf(l)
	want.Accounts[1].Bond, want.Burnt = 0, 9
	wantLedger(t, "P8.6: who is in jail already", got, e, want)
}

// TestGreatShares: thousandths of the greatest bonds don't wrap.
func TestGreatShares(t *testing.T) {
	for _, amount := range []uint64{supply, supply - 1, 1 << 59, 1<<54 + 999, math.MaxUint64 / 1000, math.MaxUint64/1000 + 1} {
		for _, slash := range []uint64{0, 1, 2, 499, 500, 501, 998, 999, 1000} {
			lost := modelShare(amount, slash)
			l := mustNew(t, api.Account{Addr: 1, Bond: amount})
			got, e := ledger.Punish(l, api.Params{Slash: slash}, 1, 1)
			wantLedger(t, "P8.6: of a great bond", got, e, api.Ledger{Accounts: []api.Account{{Addr: 1, Bond: amount - lost, Jailed: true}}, Burnt: lost, Supply: amount})
			l = api.Ledger{Accounts: []api.Account{{Addr: 1}}, Releases: []api.Release{{Height: 3, Addr: 1, Born: 1, Amount: amount}}, Supply: amount}
			got, e = ledger.Punish(l, api.Params{Slash: slash}, 1, 1)
			want := api.Ledger{Accounts: []api.Account{{Addr: 1, Jailed: true}}, Burnt: lost, Supply: amount}
			if lost < amount {
				want.Releases = []api.Release{{Height: 3, Addr: 1, Born: 1, Amount: amount - lost}}
			}
			wantLedger(t, "P8.6: of a great row", got, e, want)
		}
	}
}

func TestPay(t *testing.T) {
	got, e := ledger.Pay(unbonding(), 104)
	wantLedger(t, "P8.7, example: nothing at 104", got, e, unbonding())
	want := unbonding()
	want.Accounts[1].Balance, want.Releases = 25, nil
	got, e = ledger.Pay(unbonding(), 105)
	wantLedger(t, "P8.7, example", got, e, want)
	got, e = ledger.Pay(unbonding(), api.MaxHeight)
	wantLedger(t, "P8.7: later", got, e, want)
	for _, height := range []uint64{0, api.MaxHeight + 1, math.MaxUint64} {
		got, e = ledger.Pay(unbonding(), height)
		wantRefused(t, "P8.7", got, e, api.ErrArg)
	}
	got, e = ledger.Pay(api.Ledger{}, 1)
	wantLedger(t, "P8.7: nothing at all", got, e, api.Ledger{})
	l := closed(api.Ledger{
		Accounts: []api.Account{{Addr: 2, Bond: 5, Balance: 6, Nonce: 7, Jailed: true}, {Addr: 3}},
		Releases: []api.Release{{Height: 0, Addr: 3, Amount: 10}, {Height: 7, Addr: 2, Born: 7, Amount: 20}, {Height: 8, Addr: 2, Born: 7, Amount: 40}, {Height: 8, Addr: 3, Born: 1, Amount: 80}, {Height: 9, Addr: 2, Born: 2, Amount: 160}},
		Burnt:    4,
	})
	want = copyOf(l)
	want.Accounts[0].Balance, want.Accounts[1].Balance, want.Releases = 66, 90, l.Releases[4:]
	got, e = ledger.Pay(l, 8)
	wantLedger(t, "P8.7: several", got, e, want)
}

// TestPunishAndPayOfAnything holds both against the model.
func TestPunishAndPayOfAnything(t *testing.T) {
	r := rand.New(rand.NewSource(85))
	for range 20000 {
		l := someSound(r)
		p := api.Params{Slash: uint64(r.Intn(1003))}
		a, height := api.Addr(r.Intn(14)), uint64(r.Intn(24))
		if r.Intn(3) == 0 {
			p.Slash = 1000
		}
		got, e := ledger.Punish(l, p, a, height)
		want, wrong := modelPunish(l, p, a, height)
		if e != wrong || !sameLedger(got, want) {
			t.Fatalf("P8.6: Punish of %d at %d by %d in %v: %v, error %d, want %v, error %d", a, height, p.Slash, l, got, e, want, wrong)
		}
		if e == api.OK {
			wantErr(t, "P8.12: Punish", ledger.Sound(got), api.OK)
			if got.Supply != l.Supply || !allBut(changedAccounts(l, got), a) {
				t.Fatalf("P8.12, P8.14: Punish of %d in %v: %v", a, l, got)
			}
			for _, key := range changedRows(l, got) {
				if key.addr != a {
					t.Fatalf("P8.14: Punish of %d has changed the row %v", a, key)
				}
			}
		}
		got, e = ledger.Pay(l, height)
		want, wrong = modelPay(l, height)
		if e != wrong || !sameLedger(got, want) {
			t.Fatalf("P8.7: Pay at %d in %v: %v, error %d, want %v, error %d", height, l, got, e, want, wrong)
		}
		if e == api.OK {
			wantErr(t, "P8.12: Pay", ledger.Sound(got), api.OK)
			if got.Supply != l.Supply {
				t.Fatalf("P8.12: Pay in %v: %v", l, got)
			}
			for _, a := range changedAccounts(l, got) {
				if !slices.ContainsFunc(l.Releases, func(row api.Release) bool { return row.Addr == a && row.Height <= height }) {
					t.Fatalf("P8.14: Pay at %d in %v has changed %d", height, l, a)
				}
			}
		}
	}
}

func wantSeats(t *testing.T, what string, l api.Ledger, p api.Params, want ...api.Member) {
	t.Helper()
	if got := ledger.Seats(l, p); !slices.Equal(got, want) {
		t.Errorf("P8.8: %s: %v, want %v", what, got, want)
	}
}

func TestSeats(t *testing.T) {
	l := mustNew(t, api.Account{Addr: 1, Bond: 50}, api.Account{Addr: 2, Bond: 10}, api.Account{Addr: 3, Bond: 9}, api.Account{Addr: 4, Bond: 50})
	one, two, three, four := api.Member{Addr: 1, Power: 50}, api.Member{Addr: 2, Power: 10}, api.Member{Addr: 3, Power: 9}, api.Member{Addr: 4, Power: 50}
	wantSeats(t, "example", l, params, one, four)
	jailed := copyOf(l)
	jailed.Accounts[0].Jailed = true
	wantSeats(t, "example: 1 in jail", jailed, params, two, four)
	wantSeats(t, "of equal ones the least address", l, api.Params{Seats: 1}, one)
	wantSeats(t, "more seats", l, api.Params{Seats: 3}, one, two, four)
	wantSeats(t, "as many seats", l, api.Params{Seats: 4}, one, two, three, four)
	wantSeats(t, "too many seats", l, api.Params{Seats: math.MaxInt}, one, two, three, four)
	wantSeats(t, "just the least bond", l, api.Params{Seats: 4, MinBond: 9}, one, two, three, four)
	wantSeats(t, "one below the least bond", l, api.Params{Seats: 4, MinBond: 10}, one, two, four)
	wantSeats(t, "nobody has as much", l, api.Params{Seats: 4, MinBond: 51})
	wantSeats(t, "a least bond above all", l, api.Params{Seats: 4, MinBond: math.MaxUint64})
	for _, n := range []int{0, -1, math.MinInt} {
		wantSeats(t, "no seats", l, api.Params{Seats: n})
	}
	wantSeats(t, "nobody at all", api.Ledger{}, params)
	poor := mustNew(t, api.Account{Addr: 1, Balance: 9}, api.Account{Addr: 2, Bond: 1}, api.Account{Addr: 3, Bond: 4, Jailed: true})
	wantSeats(t, "a bond of 0 never sits", poor, api.Params{Seats: 9}, api.Member{Addr: 2, Power: 1})
	crowd := many(200, 0)
	var want []api.Member
	for k := range crowd {
		crowd[k].Bond = 7
		if k >= 100 && k < 130 {
			crowd[k].Bond = 8
		}
		if k < 34 || k >= 100 && k < 130 {
			want = append(want, api.Member{Addr: crowd[k].Addr, Power: crowd[k].Bond})
		}
	}
	wantSeats(t, "64 at most", mustNew(t, crowd...), api.Params{Seats: 100}, want...)
	wantSeats(t, "64 at most", mustNew(t, crowd...), api.Params{Seats: 65}, want...)
	wantSeats(t, "64 at most", mustNew(t, crowd...), api.Params{Seats: 64}, want...)
	want = slices.DeleteFunc(want, func(m api.Member) bool { return m.Addr == 34 })
	wantSeats(t, "63", mustNew(t, crowd...), api.Params{Seats: 63}, want...)
}

// TestSeatsOfAnything holds Seats against the model, and against what is promised of them.
func TestSeatsOfAnything(t *testing.T) {
	r := rand.New(rand.NewSource(86))
	for range 20000 {
		l := someSound(r)
		for k := range l.Accounts {
			if r.Intn(2) == 0 {
				l.Accounts[k].Bond = uint64(r.Intn(4))
			}
		}
		l = closed(l)
		p := api.Params{Seats: r.Intn(9) - 1, MinBond: uint64(r.Intn(4))}
		seats := ledger.Seats(l, p)
		if !slices.Equal(seats, modelSeats(l, p)) {
			t.Fatalf("P8.8: Seats of %v with %v: %v, want %v", l, p, seats, modelSeats(l, p))
		}
		if len(seats) == 0 {
			continue
		}
		if len(seats) > p.Seats {
			t.Fatalf("P8.16: %d seats, want at most %d", len(seats), p.Seats)
		}
		if _, e := council.New(seats); e != api.OK && modelSound(l) == api.OK {
			t.Fatalf("P8.16: council.New of %v: error %d", seats, e)
		}
		for _, acc := range l.Accounts {
			sits := slices.ContainsFunc(seats, func(m api.Member) bool { return m.Addr == acc.Addr })
			for _, m := range seats {
				if !sits && !acc.Jailed && acc.Bond > m.Power {
					t.Fatalf("P8.16: %v does not sit, %v does", acc, m)
				}
			}
		}
	}
}
