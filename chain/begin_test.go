package chain_test

import (
	"fmt"
	"math"
	"reflect"
	"strings"
	"testing"

	"assent/api"
	"assent/chain"
	"assent/council"
	"assent/ledger"
)

func wantNoBegin(t *testing.T, what string, g api.Genesis, want api.Errno) {
	t.Helper()
	st, e := chain.Begin(g)
	if e != want {
		t.Errorf("C1: %s: error %d, want %d", what, e, want)
	}
	if e != api.OK && !reflect.DeepEqual(st, api.State{}) {
		t.Errorf("G2: %s: a state beside the error %d", what, e)
	}
}

// paramCase is a change of fit parameters, and whether they stay fit.
type paramCase struct {
	what string
	bend func(p *api.Params)
	fit  bool
}

// paramCases go along all edges of fit parameters.
func paramCases() (all []paramCase) {
	number := func(what string, field func(p *api.Params) *uint64, least, most uint64) {
		for _, n := range []uint64{0, 1, least, least - 1, least + 1, most, most + 1, math.MaxUint64, math.MaxInt64 + 1} {
			set := func(p *api.Params) { *field(p) = n }
			all = append(all, paramCase{fmt.Sprint(what, " ", n), set, n >= least && n <= most})
		}
	}
	whole := func(what string, field func(p *api.Params) *int, least, most int) {
		for _, n := range []int{math.MinInt, -1, 0, least - 1, least, most, most + 1, math.MaxInt} {
			set := func(p *api.Params) { *field(p) = n }
			all = append(all, paramCase{fmt.Sprint(what, " ", n), set, n >= least && n <= most})
		}
	}
	number("MinBond", func(p *api.Params) *uint64 { return &p.MinBond }, 1, 1<<60-1)
	whole("Seats", func(p *api.Params) *int { return &p.Seats }, 1, 64)
	number("Slash", func(p *api.Params) *uint64 { return &p.Slash }, 0, 1000)
	number("Period", func(p *api.Params) *uint64 { return &p.Period }, 5, 1<<32)
	whole("MaxTxs", func(p *api.Params) *int { return &p.MaxTxs }, 0, 1000)
	for what, field := range map[string]func(p *api.Params) *uint64{
		"Propose":  func(p *api.Params) *uint64 { return &p.Propose },
		"Votes":    func(p *api.Params) *uint64 { return &p.Votes },
		"Resend":   func(p *api.Params) *uint64 { return &p.Resend },
		"Trusting": func(p *api.Params) *uint64 { return &p.Trusting },
	} {
		number(what, field, 1, 1<<32)
	}
	number("Pause", func(p *api.Params) *uint64 { return &p.Pause }, 0, 1<<32)
	number("Drift", func(p *api.Params) *uint64 { return &p.Drift }, 0, 1<<32)
	for _, c := range []struct {
		age, period uint64
		fit         bool
	}{
		{0, 5, false}, {1, 3, false}, {1, 4, true}, {2, 4, false}, {2, 5, true}, {255, 258, true}, {256, 258, false}, {256, 259, true}, {257, 1 << 32, false},
		{math.MaxUint64, 5, false}, {math.MaxUint64 - 1, 5, false}, {math.MaxUint64 - 2, 5, false}, {math.MaxUint64 - 3, math.MaxUint64, false},
	} {
		set := func(p *api.Params) { p.Age, p.Period = c.age, c.period }
		all = append(all, paramCase{fmt.Sprint("Age ", c.age, " and Period ", c.period), set, c.fit})
	}
	return all
}

func TestBeginFit(t *testing.T) {
	for _, c := range paramCases() {
		g := genesis()
		g.Accounts = []api.Account{{Addr: 1, Bond: api.MaxSupply}} // enough for every MinBond
		c.bend(&g.Params)
		want := api.ErrArg
		if c.fit {
			want = api.OK
		}
		wantNoBegin(t, c.what, g, want)
	}
}

func TestBeginNameAndTime(t *testing.T) {
	for n, want := range map[int]api.Errno{0: api.ErrArg, 1: api.OK, 16: api.OK, 17: api.ErrArg, 1000: api.ErrArg} {
		g := genesis()
		g.Chain = strings.Repeat("\xff", n)
		wantNoBegin(t, fmt.Sprint("a name of ", n, " bytes"), g, want)
	}
	for time, want := range map[uint64]api.Errno{0: api.OK, 1 << 50: api.OK, 1<<50 + 1: api.ErrArg, math.MaxUint64: api.ErrArg} {
		g := genesis()
		g.Time = time
		wantNoBegin(t, fmt.Sprint("the time ", time), g, want)
	}
}

// TestBeginOrder: ErrArg is ahead of ledger.New's errors, and these are ahead of ErrEmpty.
func TestBeginOrder(t *testing.T) {
	for what, c := range map[string]struct {
		accounts []api.Account
		want     api.Errno
	}{
		"nobody's account":  {[]api.Account{{Addr: 0}}, api.ErrNobody},
		"not in order":      {[]api.Account{{Addr: 2}, {Addr: 1}}, api.ErrOrder},
		"twice":             {[]api.Account{{Addr: 2}, {Addr: 2}}, api.ErrOrder},
		"too much":          {[]api.Account{{Addr: 1, Balance: api.MaxSupply + 1}}, api.ErrSum},
		"together too much": {[]api.Account{{Addr: 1, Bond: api.MaxSupply}, {Addr: 2, Bond: 1}}, api.ErrSum},
		"too many":          {make([]api.Account, api.MaxAccounts+1), api.ErrCrowd},
		"none":              {nil, api.ErrEmpty},
		"an empty list":     {[]api.Account{}, api.ErrEmpty},
		"all in jail":       {[]api.Account{{Addr: 1, Bond: 10, Jailed: true}}, api.ErrEmpty},
		"bonds below":       {[]api.Account{{Addr: 1, Bond: 6, Balance: 9}, {Addr: 2, Bond: 6}}, api.ErrEmpty},
		"one is enough":     {[]api.Account{{Addr: 1, Bond: 6, Balance: 9}, {Addr: 2, Bond: 7}}, api.OK},
	} {
		g := genesis()
		g.Accounts, g.Params.MinBond = c.accounts, 7
		wantNoBegin(t, what, g, c.want)
		for k, bend := range []func(g *api.Genesis){
			func(g *api.Genesis) { g.Chain = "" },
			func(g *api.Genesis) { g.Time = api.MaxTime + 1 },
			func(g *api.Genesis) { g.Params.Propose = 0 },
		} {
			h := g
			bend(&h)
			wantNoBegin(t, fmt.Sprint(what, ", bent by ", k), h, api.ErrArg)
		}
	}
}

// TestBeginState: each part of the state is as the rule says.
func TestBeginState(t *testing.T) {
	g := genesis()
	g.Time, g.Params.Seats, g.Params.Drift, g.Params.MinBond = 0, 3, 77, 5
	g.Accounts = []api.Account{{Addr: 2, Balance: 5, Bond: 30, Nonce: 9}, {Addr: 3, Bond: 4}, {Addr: 5, Bond: 20, Jailed: true}, {Addr: 6, Bond: 10}, {Addr: 8, Bond: 60}, {Addr: 9, Bond: 5}}
	st, e := chain.Begin(g)
	if e != api.OK {
		t.Fatalf("C1: error %d", e)
	}
	l, _ := ledger.New(g.Accounts)
	first, _ := council.New([]api.Member{{Addr: 2, Power: 30}, {Addr: 6, Power: 10}, {Addr: 8, Power: 60}})
	moved, _ := council.Turn(first, 1)
	next, _ := council.Renew(moved, first.Members)
	want := api.State{Chain: name, Params: g.Params, Ledger: l, Council: first, Next: next}
	if !reflect.DeepEqual(st, want) {
		t.Errorf("C1: %v, want %v", st, want)
	}
	if reflect.DeepEqual(first, next) {
		t.Errorf("C1: no turn has gone by between the first two councils")
	}
}

// TestBeginGreat: as many seats and accounts as there may be, and all the power that there may be.
func TestBeginGreat(t *testing.T) {
	g := genesis()
	g.Params.Seats, g.Accounts = 64, nil
	for a := api.Addr(1); a <= api.MaxAccounts; a++ {
		g.Accounts = append(g.Accounts, api.Account{Addr: a, Bond: 1 + uint64(a)/65000})
	}
	g.Accounts[7].Bond = api.MaxSupply - 2*api.MaxAccounts
	st, e := chain.Begin(g)
	if e != api.OK || len(st.Council.Members) != 64 || st.Council.Members[0].Addr != 8 || st.Council.Members[1].Addr != 65000 {
		t.Errorf("C1: %d seats, error %d", len(st.Council.Members), e)
	}
}
