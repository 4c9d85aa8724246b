package wire_test

import (
	"math"
	"slices"
	"strings"
	"testing"

	"assent/api"
	"assent/wire"
)

func goodState() api.State {
	return api.State{
		Chain:   "chain",
		Params:  api.Params{MinBond: 300, Seats: 64, Slash: 301, Period: 302, Age: 303, MaxTxs: 304, Propose: 305, Votes: 306, Pause: 307, Resend: 308, Trusting: 309, Drift: 310},
		Height:  400,
		Time:    401,
		Last:    id(30),
		Council: api.Council{Members: []api.Member{{Addr: 1, Power: 500, Priority: -3}, {Addr: 200, Power: 501, Priority: 70}}},
		Next:    api.Council{Members: []api.Member{{Addr: 2, Power: 502, Priority: math.MaxInt64}}},
		Past: []api.Past{
			{Height: 398, Time: 600, Council: api.Council{Members: []api.Member{{Addr: 5, Power: 503, Priority: math.MinInt64}}}},
			{Height: 399, Time: 599},
		},
		Punished: []api.Offence{{Height: 390, Addr: 9}, {Height: 390, Addr: 10}, {Height: 391, Addr: 1}},
		Ledger: api.Ledger{
			Accounts: []api.Account{{Addr: 1, Balance: 700, Bond: 701, Nonce: 702, Jailed: true}, {Addr: 3, Balance: 703, Bond: 704, Nonce: 705}},
			Releases: []api.Release{{Height: 800, Addr: 3, Born: 801, Amount: 802}, {Height: 800, Addr: 4, Born: 803, Amount: 804}, {Height: 801, Addr: 1, Born: 805, Amount: 806}},
			Burnt:    900,
			Supply:   901,
		},
	}
}

func stateForm(x api.State) string {
	p, l := x.Params, x.Ledger
	s := text(x.Chain)
	s += number(p.MinBond) + string(byte(p.Seats)) + number(p.Slash) + number(p.Period) + number(p.Age) + number(p.MaxTxs)
	s += number(p.Propose) + number(p.Votes) + number(p.Pause) + number(p.Resend) + number(p.Trusting) + number(p.Drift)
	s += number(x.Height) + number(x.Time) + string(x.Last[:]) + councilForm(x.Council) + councilForm(x.Next)
	s += listForm(x.Past, func(p api.Past) string { return number(p.Height) + number(p.Time) + councilForm(p.Council) })
	s += listForm(x.Punished, func(o api.Offence) string { return number(o.Height) + number(o.Addr) })
	s += listForm(l.Accounts, func(a api.Account) string {
		jailed := "\x00"
		if a.Jailed {
			jailed = "\x01"
		}
		return number(a.Addr) + number(a.Balance) + number(a.Bond) + number(a.Nonce) + jailed
	})
	s += listForm(l.Releases, func(r api.Release) string {
		return number(r.Height) + number(r.Addr) + number(r.Born) + number(r.Amount)
	})
	return s + number(l.Burnt) + number(l.Supply)
}

func councilForm(x api.Council) string {
	return listForm(x.Members, func(m api.Member) string {
		priority := 2 * uint64(m.Priority)
		if m.Priority < 0 {
			priority = uint64(-2*m.Priority - 1)
		}
		return number(m.Addr) + number(m.Power) + number(priority)
	})
}

func TestFormOfState(t *testing.T) {
	wantForm(t, "W13", wire.EncodeState, wire.DecodeState, goodState(), stateForm(goodState()))
	least := api.State{Chain: "c", Params: api.Params{Seats: 1}}
	wantForm(t, "W13, the least", wire.EncodeState, wire.DecodeState, least, "\x01c\x00\x01"+zeros(10+2+32+2+2+2+2))
}

func TestPriorities(t *testing.T) {
	for priority, want := range map[int64]string{
		0: "\x00", -1: "\x01", 1: "\x02", -2: "\x03", 2: "\x04", -64: "\x7f", 64: "\x80\x01",
		math.MinInt64: strings.Repeat("\xff", 9) + "\x01", math.MaxInt64: "\xfe" + strings.Repeat("\xff", 8) + "\x01",
	} {
		x := api.State{Chain: "c", Params: api.Params{Seats: 1}, Council: api.Council{Members: []api.Member{{Addr: 5, Power: 6, Priority: priority}}}}
		form := "\x01c\x00\x01" + zeros(10+2+32) + "\x01\x05\x06" + want + zeros(1+2+2+2)
		wantForm(t, "W10, example 10", wire.EncodeState, wire.DecodeState, x, form)
	}
}

func members(n int) (c api.Council) {
	for k := range n {
		c.Members = append(c.Members, api.Member{Addr: api.Addr(k)})
	}
	return c
}

func twice(a, b api.Addr) api.Council {
	return api.Council{Members: []api.Member{{Addr: a}, {Addr: b}}}
}

func past(n int) (l []api.Past) {
	for k := range n {
		l = append(l, api.Past{Height: uint64(k)})
	}
	return l
}

func accounts(n int) (l []api.Account) {
	for k := range n {
		l = append(l, api.Account{Addr: api.Addr(k)})
	}
	return l
}

func encodeStateErr(x api.State) api.Errno {
	_, e := wire.EncodeState(x)
	return e
}

func TestEncodeStateRefuses(t *testing.T) {
	with := func(change func(*api.State)) api.State {
		x := goodState()
		x.Past, x.Punished = slices.Clone(x.Past), slices.Clone(x.Punished)
		return changed(x, change)
	}
	wantErrs(t, "W13, fields", encodeStateErr, wire.EncodeState, []trial[api.State]{
		{"a state", goodState(), api.OK},
		{"no name", with(func(x *api.State) { x.Chain = "" }), api.ErrField},
		{"a name of 16", with(func(x *api.State) { x.Chain = strings.Repeat("a", 16) }), api.OK},
		{"a name of 17", with(func(x *api.State) { x.Chain = strings.Repeat("a", 17) }), api.ErrField},
		{"height 0", with(func(x *api.State) { x.Height = 0 }), api.OK},
		{"the greatest height", with(func(x *api.State) { x.Height = api.MaxHeight }), api.OK},
		{"a greater one", with(func(x *api.State) { x.Height = tooHigh }), api.ErrField},
		{"the greatest time", with(func(x *api.State) { x.Time = api.MaxTime }), api.OK},
		{"a greater one", with(func(x *api.State) { x.Time = tooLate }), api.ErrField},
		{"no seat", with(func(x *api.State) { x.Params.Seats = 0 }), api.ErrField},
		{"seats below 0", with(func(x *api.State) { x.Params.Seats = -255 }), api.ErrField},
		{"65 seats", with(func(x *api.State) { x.Params.Seats = 65 }), api.ErrField},
		{"no transactions", with(func(x *api.State) { x.Params.MaxTxs = 0 }), api.OK},
		{"fewer", with(func(x *api.State) { x.Params.MaxTxs = -1 }), api.ErrField},
		{"1000", with(func(x *api.State) { x.Params.MaxTxs = 1000 }), api.OK},
		{"1001", with(func(x *api.State) { x.Params.MaxTxs = 1001 }), api.ErrField},
		{"no seat and 65 members", with(func(x *api.State) { x.Params.Seats, x.Council = 0, members(65) }), api.ErrField},
		{"no name and two members alike", with(func(x *api.State) { x.Chain, x.Council = "", twice(1, 1) }), api.ErrField},
	})
	wantErrs(t, "W13, lengths", encodeStateErr, wire.EncodeState, []trial[api.State]{
		{"64 members", with(func(x *api.State) { x.Council, x.Next, x.Past[1].Council = members(64), members(64), members(64) }), api.OK},
		{"65 members", with(func(x *api.State) { x.Council = members(65) }), api.ErrBig},
		{"65 next", with(func(x *api.State) { x.Next = members(65) }), api.ErrBig},
		{"65 past", with(func(x *api.State) { x.Past[1].Council = members(65) }), api.ErrBig},
		{"65 past and two alike ahead", with(func(x *api.State) { x.Past[1].Council, x.Council = members(65), twice(1, 1) }), api.ErrBig},
		{"256 past", with(func(x *api.State) { x.Past = past(256) }), api.OK},
		{"257 past", with(func(x *api.State) { x.Past = past(257) }), api.ErrBig},
		{"257 past and two members alike", with(func(x *api.State) { x.Past, x.Next = past(257), twice(1, 1) }), api.ErrBig},
		{"65536 accounts", with(func(x *api.State) { x.Ledger.Accounts = accounts(api.MaxAccounts) }), api.OK},
		{"65537", with(func(x *api.State) { x.Ledger.Accounts = accounts(api.MaxAccounts + 1) }), api.ErrBig},
		{"65537 alike", with(func(x *api.State) { x.Ledger.Accounts = make([]api.Account, api.MaxAccounts+1) }), api.ErrBig},
	})
	wantErrs(t, "W13, order", encodeStateErr, wire.EncodeState, []trial[api.State]{
		{"members falling", with(func(x *api.State) { x.Council = twice(2, 1) }), api.ErrOrder},
		{"next alike", with(func(x *api.State) { x.Next = twice(2, 2) }), api.ErrOrder},
		{"past members falling", with(func(x *api.State) { x.Past[1].Council = twice(2, 1) }), api.ErrOrder},
		{"the greatest member", with(func(x *api.State) { x.Next = twice(0, math.MaxUint64) }), api.OK},
		{"past alike", with(func(x *api.State) { x.Past[1].Height = 398 }), api.ErrOrder},
		{"past falling", with(func(x *api.State) { x.Past[1].Height = 397 }), api.ErrOrder},
		{"past far ahead", with(func(x *api.State) { x.Past[1].Height = math.MaxUint64 }), api.OK},
		{"punished alike", with(func(x *api.State) { x.Punished[1].Addr = 9 }), api.ErrOrder},
		{"punished falling within a height", with(func(x *api.State) { x.Punished[1].Addr = 8 }), api.ErrOrder},
		{"punished falling heights", with(func(x *api.State) { x.Punished[2] = api.Offence{Height: 389, Addr: 99} }), api.ErrOrder},
		{"accounts alike", with(func(x *api.State) { x.Ledger.Accounts = []api.Account{{Addr: 1}, {Addr: 1, Nonce: 1}} }), api.ErrOrder},
		{"accounts falling", with(func(x *api.State) { x.Ledger.Accounts = []api.Account{{Addr: 0}, {Addr: 2}, {Addr: 1}} }), api.ErrOrder},
		{"releases alike", with(func(x *api.State) {
			x.Ledger.Releases = []api.Release{{Height: 1, Addr: 1}, {Height: 1, Addr: 1, Born: 2, Amount: 3}}
		}), api.ErrOrder},
		{"releases falling within a height", with(func(x *api.State) { x.Ledger.Releases = []api.Release{{Height: 1, Addr: 2}, {Height: 1, Addr: 1}} }), api.ErrOrder},
		{"releases falling heights", with(func(x *api.State) { x.Ledger.Releases = []api.Release{{Height: 2, Addr: 1}, {Height: 1, Addr: 2}} }), api.ErrOrder},
	})
	full := uint64(math.MaxUint64)
	wantErrs(t, "W13, nothing else", encodeStateErr, wire.EncodeState, []trial[api.State]{
		{"numbers without sense", with(func(x *api.State) {
			x.Params = api.Params{MinBond: full, Seats: 1, Slash: full, Period: full, Age: full, Propose: full, Votes: full, Pause: full, Resend: full, Trusting: full, Drift: full}
			x.Past = []api.Past{{Height: full, Time: full}}
			x.Punished = []api.Offence{{Height: full}}
			x.Ledger = api.Ledger{Accounts: []api.Account{{Balance: full, Bond: full, Nonce: full}}, Releases: []api.Release{{Born: full, Amount: full}}, Burnt: full}
			x.Council = api.Council{Members: []api.Member{{Power: full}}}
		}), api.OK},
	})
}

func TestDecodeStateRefuses(t *testing.T) {
	params := "\x00\x01" + zeros(10)
	front := "\x01c" + params + "\x00\x00" + zeros(32)
	rest := func(n int) string { return zeros(n) }
	member := "\x05\x06\x00"
	for b, want := range map[string]api.Errno{
		"":                            api.ErrCut,
		front + zeros(7):              api.ErrCut,
		front + zeros(8) + "\x00":     api.ErrRest,
		"\x00" + front[2:] + zeros(8): api.ErrField, // no name
		"\x11" + zeros(17) + front[2:] + zeros(8):                                                                 api.ErrOver,
		"\x00" + front[2:] + zeros(9):                                                                             api.ErrRest,  // ahead of the name
		"\x01c\x00\x00" + zeros(10) + front[len("\x01c"+params):] + zeros(8):                                      api.ErrField, // no seat
		"\x01c\x00\xff" + zeros(10) + front[len("\x01c"+params):] + zeros(8):                                      api.ErrField,
		"\x01c\x00\x01\x00\x00\x00" + number(1001) + zeros(6) + front[len("\x01c"+params):] + zeros(8):            api.ErrField,
		"\x01c\x00\x01\x00\x00\x00" + number(1<<32+5) + zeros(6) + front[len("\x01c"+params):] + zeros(8):         api.ErrField,
		"\x01c\x00\x01\x00\x00\x00" + number(uint64(1<<63+5)) + zeros(6) + front[len("\x01c"+params):] + zeros(8): api.ErrField,
		"\x01c" + params + number(uint64(tooHigh)) + "\x00" + zeros(32+8):                                         api.ErrField,
		front + "\x41" + rest(500):                                                                                api.ErrOver, // members
		front + "\x40" + rest(63):                                                                                 api.ErrCut,
		front + "\x00\x41" + rest(500):                                                                            api.ErrOver,
		front + "\x00\x00" + number(257) + rest(2000):                                                             api.ErrOver, // past
		front + "\x00\x00" + number(256) + rest(255):                                                              api.ErrCut,
		front + "\x00\x00\x01\x00\x00\x41" + rest(500):                                                            api.ErrOver,
		front + zeros(3) + number(1<<31-1) + rest(500):                                                            api.ErrCut, // punished
		front + zeros(3) + number(1<<31) + rest(500):                                                              api.ErrOver,
		front + zeros(4) + number(65537) + rest(500000):                                                           api.ErrOver, // accounts
		front + zeros(4) + number(65536) + rest(500):                                                              api.ErrCut,
		front + zeros(5) + number(1<<31-1) + rest(500):                                                            api.ErrCut, // releases
		front + zeros(5) + number(1<<31) + rest(500):                                                              api.ErrOver,
		front + zeros(3) + "\x03\x80\x00\x00":                                                                     api.ErrForm, // three may stand in three bytes: the first of them is looked at
		front + zeros(3) + "\x04\x80\x00\x00":                                                                     api.ErrCut,
		front + zeros(4) + "\x01\x01\x02\x03\x04\x02" + zeros(3):                                                  api.ErrForm, // jailed is 2
		front + "\x02" + member + member + zeros(7):                                                               api.ErrOrder,
		front + "\x02" + member + member + zeros(8):                                                               api.ErrRest,
		front + zeros(3) + "\x02\x01\x01\x01\x01" + zeros(4):                                                      api.ErrOrder,
		"\x00" + front[2:] + "\x02" + member + member + zeros(7):                                                  api.ErrField,
	} {
		wantRefused(t, "W13, DecodeState of "+head(b), wire.DecodeState, b, want)
	}
}

// TestListsWithoutALimit: of what was punished and of what was let go there may be more than of anything else.
func TestListsWithoutALimit(t *testing.T) {
	x := goodState()
	for k := range uint64(100000) {
		x.Punished = append(x.Punished, api.Offence{Height: 392 + k, Addr: 1})
		x.Ledger.Releases = append(x.Ledger.Releases, api.Release{Height: 802 + k})
	}
	wantForm(t, "W13", wire.EncodeState, wire.DecodeState, x, stateForm(x))
}
