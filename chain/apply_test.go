package chain_test

import (
	"math"
	"reflect"
	"slices"
	"testing"

	"assent/api"
	"assent/chain"
	"assent/council"
	"assent/ledger"
)

// TestApplyState: each part of the state is as the rule says.
func TestApplyState(t *testing.T) {
	w, b := bendWorld(t)
	was := copyState(w.st)
	w.on(b)
	st := w.st
	l, _ := ledger.Pay(was.Ledger, 4)
	for _, v := range b.Evidence {
		l, _ = ledger.Punish(l, was.Params, v.A.From, v.A.Height)
	}
	for _, x := range b.Txs {
		l, _ = ledger.Apply(l, w.r, name, was.Params, 4, b.Header.Proposer, x)
	}
	moved, _ := council.Turn(was.Next, 1)
	next, _ := council.Renew(moved, ledger.Seats(l, was.Params))
	want := api.State{
		Chain: name, Params: was.Params, Height: 4, Time: b.Header.Time, Last: st.Last, Ledger: l,
		Council: was.Next, Next: next,
		Past:     []api.Past{was.Past[1], {Height: 4, Time: b.Header.Time, Council: was.Council}},
		Punished: []api.Offence{{Height: 3, Addr: 3}, {Height: 3, Addr: 4}},
	}
	if !reflect.DeepEqual(st, want) {
		t.Errorf("C7: %v, want %v", st, want)
	}
	if st.Ledger.Burnt != 5+2+5 { // 3 is punished twice, for two heights
		t.Errorf("C7: %d were burnt", st.Ledger.Burnt)
	}
}

// TestPunishedRows: what was let go from the block ahead of the offence on is punished with the bond, by the offence's height and not by the block's.
func TestPunishedRows(t *testing.T) {
	for offence, want := range map[uint64]uint64{2: 2, 3: 4} {
		w := examples(t, 0)
		w.on(w.block([]api.Tx{w.due(api.Tx{Kind: api.TxUnbond, From: 2, Amount: 4}, 0)}, nil)) // Born 1
		w.grow(2)
		w.on(w.block(nil, []api.Evidence{w.ev(offence, 2)}))
		if rows := w.st.Ledger.Releases; len(rows) != 1 || rows[0].Amount != want || w.account(2).Bond != 3 {
			t.Errorf("C7: punished for %d: %v, bond %d", offence, rows, w.account(2).Bond)
		}
	}
}

// TestPaidAheadOfPunishment: what is due in a block is paid whole, though it is punished there.
func TestPaidAheadOfPunishment(t *testing.T) {
	g := genesis()
	g.Params.Age, g.Params.Period = 1, 4
	w := newWorld(t, g)
	w.grow(1)
	w.on(w.block([]api.Tx{w.due(api.Tx{Kind: api.TxUnbond, From: 2, Amount: 4}, 0)}, nil)) // Born 2, paid at 6
	w.grow(3)
	w.st.Ledger.Releases[0].Born = 5 // no chain comes to that; a row that is punished is paid long behind it
	w.on(w.block(nil, []api.Evidence{w.ev(5, 2)}))
	if acc := w.account(2); acc.Balance != 104 || acc.Bond != 3 || len(w.st.Ledger.Releases) != 0 || w.st.Ledger.Burnt != 3 {
		t.Errorf("C7: %v, %d burnt", acc, w.st.Ledger.Burnt)
	}
}

// TestNobodyLeft: where all are in jail, the next council stays, a turn on.
func TestNobodyLeft(t *testing.T) {
	w := examples(t, 1)
	was := w.st.Next
	w.on(w.block(nil, []api.Evidence{w.ev(1, 1), w.ev(1, 2), w.ev(1, 3), w.ev(1, 4)}))
	if len(ledger.Seats(w.st.Ledger, w.st.Params)) != 0 {
		t.Fatalf("somebody is to sit")
	}
	want, _ := council.Turn(was, 1)
	if !reflect.DeepEqual(w.st.Next, want) || !reflect.DeepEqual(w.st.Council, was) {
		t.Errorf("C7: Next %v, want %v", w.st.Next, want)
	}
	for range 3 { // and the chain goes on with those that are there
		was = w.st.Next
		w.grow(1)
		if want, _ := council.Turn(was, 1); !reflect.DeepEqual(w.st.Next, want) {
			t.Errorf("C7: Next %v, want %v", w.st.Next, want)
		}
	}
	w.on(w.block([]api.Tx{w.due(api.Tx{Kind: api.TxFree, From: 2}, 0)}, nil))
	if got := w.st.Next.Members; len(got) != 1 || got[0].Addr != 2 || got[0].Power != 5 {
		t.Errorf("C7: Next %v", got)
	}
}

// TestPast: as many heights as Age says, and the offences of these.
func TestPast(t *testing.T) {
	for _, age := range []uint64{1, 2, 5, 256} {
		g := genesis()
		g.Params.Age, g.Params.Period = age, age+3
		w := newWorld(t, g)
		var want []api.Past
		for range age + 4 {
			c := w.st.Council
			w.grow(1)
			want = append(want, api.Past{Height: w.st.Height, Time: w.st.Time, Council: c})
			want = want[max(0, len(want)-int(age)):]
			if !reflect.DeepEqual(w.st.Past, want) {
				t.Fatalf("C7: Age %d, height %d: %v, want %v", age, w.st.Height, w.st.Past, want)
			}
		}
	}
}

// TestPunishedList: offences come in between those that are there, and go with their heights.
func TestPunishedList(t *testing.T) {
	g := genesis()
	g.Params.Age, g.Params.Period, g.Params.Slash = 3, 9, 0
	w := newWorld(t, g)
	w.grow(3) // 1 to 3 count
	steps := []struct {
		punish []api.Offence
		want   []api.Offence
	}{
		{[]api.Offence{{Height: 2, Addr: 3}, {Height: 1, Addr: 2}, {Height: 3, Addr: 1}}, []api.Offence{{Height: 2, Addr: 3}, {Height: 3, Addr: 1}}},
		{[]api.Offence{{Height: 2, Addr: 1}, {Height: 2, Addr: 4}, {Height: 3, Addr: 2}, {Height: 4, Addr: 1}}, []api.Offence{{Height: 3, Addr: 1}, {Height: 3, Addr: 2}, {Height: 4, Addr: 1}}},
		{nil, []api.Offence{{Height: 4, Addr: 1}}},
		{[]api.Offence{{Height: 5, Addr: 4}}, []api.Offence{{Height: 5, Addr: 4}}},
		{nil, nil},
	}
	for k, s := range steps {
		var list []api.Evidence
		for _, o := range s.punish {
			list = append(list, w.ev(o.Height, o.Addr))
		}
		b := w.block(nil, list)
		if len(b.Evidence) != len(list) {
			t.Fatalf("C5: step %d: %d of %d pieces", k, len(b.Evidence), len(list))
		}
		w.on(b)
		if !slices.Equal(w.st.Punished, s.want) {
			t.Errorf("C7: step %d: %v, want %v", k, w.st.Punished, s.want)
		}
	}
}

// TestTwoHeightsAhead: P12.8: whatever block comes, the councils of the next two heights stay as they were told.
func TestTwoHeightsAhead(t *testing.T) {
	w := examples(t, 2)
	blocks := []api.Block{
		w.block(nil, nil),
		w.block([]api.Tx{w.due(api.Tx{Kind: api.TxUnbond, From: 1, Amount: 10}, 0), w.due(api.Tx{Kind: api.TxBond, From: 2, Amount: 90}, 0)}, nil),
		w.block(nil, []api.Evidence{w.ev(2, 1), w.ev(2, 3)}),
	}
	var nexts []api.Council
	for _, b := range blocks {
		first, e := chain.Apply(w.st, w.r, b)
		if e != api.OK {
			t.Fatalf("C7: error %d", e)
		}
		if !reflect.DeepEqual(first.Council, w.st.Next) {
			t.Errorf("P12.8: Council %v, want %v", first.Council, w.st.Next)
		}
		nexts = append(nexts, first.Next)
	}
	if reflect.DeepEqual(nexts[0], nexts[1]) || reflect.DeepEqual(nexts[1], nexts[2]) {
		t.Errorf("C7: the councils of the height behind these two are alike")
	}
}

// TestBoundedPriorities: P12.2: councils that are sound, though nobody makes them so, leave sound ones.
func TestBoundedPriorities(t *testing.T) {
	w := examples(t, 3)
	for k, m := range w.st.Next.Members {
		w.st.Next.Members[k].Priority = []int64{280, -280}[m.Addr%2]
	}
	w.st.Council.Members[2].Priority = -280
	w.st.Ledger.Accounts[0].Bond, w.st.Ledger.Accounts[0].Balance = 1, 109
	w.grow(1)
	if got := council.Sound(w.st.Next); got != api.OK {
		t.Errorf("P12.2: error %d of %v", got, w.st.Next)
	}
	w.grow(3)
}

// TestGreatPowers: nothing wraps where the whole supply is bond.
func TestGreatPowers(t *testing.T) {
	g := genesis()
	third := uint64(api.MaxSupply / 3)
	g.Accounts = []api.Account{{Addr: 1, Bond: third}, {Addr: 5, Bond: third}, {Addr: math.MaxUint64, Bond: third}}
	w := newWorld(t, g)
	w.grow(4)
	two := w.certBy(w.ahead(), 4, 0, w.st.Last, []int{0, 2}, at(w.st.Time+9))
	if _, e := chain.Make(w.st, w.r, nil, nil, two, 1); e != api.ErrQuorum {
		t.Errorf("C4: just two thirds: error %d", e)
	}
	w.on(w.block(nil, []api.Evidence{w.ev(4, math.MaxUint64)}))
	if acc := w.account(math.MaxUint64); acc.Bond != third-third/2 {
		t.Errorf("C7: %v", acc)
	}
	w.grow(4)
}
