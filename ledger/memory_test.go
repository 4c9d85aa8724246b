package ledger_test

import (
	"math"
	"math/rand"
	"reflect"
	"slices"
	"testing"

	"assent/api"
	"assent/ledger"
)

// roomy is the same list with room behind it, in which something stands.
func roomy[T any](list []T, behind T) []T {
	return append(slices.Clone(list), behind, behind, behind)[:len(list)]
}

func roomyLedger(l api.Ledger) api.Ledger {
	l.Accounts = roomy(l.Accounts, api.Account{Addr: 77, Balance: 77})
	l.Releases = roomy(l.Releases, api.Release{Height: 77, Addr: 77})
	return l
}

// within is all that lies in a ledger's lists and in the room behind them.
func within(l api.Ledger) api.Ledger {
	l.Accounts, l.Releases = l.Accounts[:cap(l.Accounts)], l.Releases[:cap(l.Releases)]
	return l
}

// spoil writes over a ledger's lists and the room behind them.
func spoil(l api.Ledger) {
	l = within(l)
	for k := range l.Accounts {
		l.Accounts[k] = api.Account{Addr: 99, Balance: 99}
	}
	for k := range l.Releases {
		l.Releases[k] = api.Release{Height: 99, Addr: 99}
	}
}

// answers are all ledgers that the calls answer of one.
func answers(b *book, l api.Ledger, r *rand.Rand) (out []api.Ledger) {
	x := b.sealed(someTx(r, l))
	take := func(m api.Ledger, _ api.Errno) { out = append(out, m) }
	for range 2 {
		take(ledger.New(l.Accounts))
		take(ledger.Apply(l, b.r, name, params, 5, 3, x))
		take(ledger.Apply(l, b.r, name, api.Params{}, 9, 14, x))
		for a := range api.Addr(13) {
			take(ledger.Punish(l, params, a, 6))
		}
		take(ledger.Punish(l, api.Params{Slash: 1000}, 3, 1))
		take(ledger.Punish(l, api.Params{}, 3, 1))
		for _, height := range []uint64{1, 10, 30} {
			take(ledger.Pay(l, height))
		}
	}
	ledger.Sound(l)
	ledger.Find(l, 3)
	ledger.Check(l, b.r, name, params, 5, x)
	ledger.Root(l)
	return out
}

// TestLedgersStay: no call changes what it is handed, or the room behind it; and what it answers is its own.
func TestLedgersStay(t *testing.T) {
	r := rand.New(rand.NewSource(89))
	b := newBook(t, everybody...)
	for range 300 {
		l := roomyLedger(someSound(r))
		was := copyOf(within(l))
		all := answers(b, l, r)
		if !sameLedger(within(l), was) {
			t.Fatalf("G2, G3: a call has changed what it was handed: %v", l)
		}
		for k := range all {
			kept := make([]api.Ledger, len(all))
			for i := range all {
				kept[i] = copyOf(all[i])
			}
			spoil(all[k])
			for i := range all {
				if i != k && !sameLedger(all[i], kept[i]) {
					t.Fatalf("G3: the answers %d and %d share memory", k, i)
				}
			}
		}
		if !sameLedger(within(l), was) {
			t.Fatalf("G3: an answer shares memory with an argument: %v", l)
		}
		all = answers(b, l, r)
		kept := make([]api.Ledger, len(all))
		for i := range all {
			kept[i] = copyOf(all[i])
		}
		spoil(l)
		for i := range all {
			if !sameLedger(all[i], kept[i]) {
				t.Fatalf("G3: the answer %d has changed with what was handed in", i)
			}
		}
	}
}

// TestAppendsStayApart: what grows behind an answer does not grow into what was handed in, nor into another answer.
func TestAppendsStayApart(t *testing.T) {
	b, l := newBook(t, 1, 2, 3), roomyLedger(first(t))
	was := copyOf(within(l))
	x := b.sealed(pay(1, 3, 30, 2, 0))
	m, _ := ledger.Apply(l, b.r, name, params, 5, 2, x)
	n, _ := ledger.Apply(l, b.r, name, params, 5, 2, x)
	kept := copyOf(n)
	_ = append(m.Accounts, api.Account{Addr: 88})
	_ = append(m.Releases, api.Release{Height: 88})
	o, _ := ledger.Apply(m, b.r, name, params, 5, 2, b.sealed(pay(1, 4, 1, 0, 1)))
	p, _ := ledger.Apply(m, b.r, name, params, 5, 2, b.sealed(pay(1, 5, 1, 0, 1)))
	if len(o.Accounts) != 4 || o.Accounts[3].Addr != 4 || len(p.Accounts) != 4 || p.Accounts[3].Addr != 5 {
		t.Errorf("G3: two ledgers behind one: %v, %v", o, p)
	}
	if !sameLedger(within(l), was) || !sameLedger(n, kept) || len(m.Accounts) != 3 {
		t.Errorf("G3: %v, %v, %v", l, m, n)
	}
}

// TestSeatsAndWitnessesAreNew: so are the lists of the other answers.
func TestSeatsAndWitnessesAreNew(t *testing.T) {
	l := roomyLedger(odd(t))
	for k := range l.Accounts {
		l.Accounts[k].Bond = uint64(k + 1)
	}
	l = closed(l)
	was := copyOf(within(l))
	p := api.Params{Seats: 3}
	seats, again := ledger.Seats(l, p), ledger.Seats(l, p)
	for k := range seats[:cap(seats)] {
		seats[:cap(seats)][k] = api.Member{}
	}
	if !slices.Equal(again, modelSeats(l, p)) {
		t.Errorf("G3: seats share memory: %v", again)
	}
	root := mustRoot(t, l)
	w := mustProve(t, l, 5)
	kept := copyOfWitness(w)
	spoilt := mustProve(t, l, 5)
	for k := range spoilt.Proofs {
		aunts := spoilt.Proofs[k].Aunts[:cap(spoilt.Proofs[k].Aunts)]
		for i := range aunts {
			aunts[i] = api.Hash{9}
		}
		spoilt.Proofs[k].Total = 9
		spoilt.Accounts[k] = api.Account{}
		if k == 0 && !slices.Equal(spoilt.Proofs[1].Aunts, kept.Proofs[1].Aunts) {
			t.Errorf("G3: two proofs of one answer share memory")
		}
	}
	if !reflect.DeepEqual(w, kept) || !sameLedger(within(l), was) {
		t.Errorf("G3: a witness shares memory: %v", w)
	}
	w.Accounts, w.Proofs = roomy(w.Accounts, api.Account{Addr: 77}), roomy(w.Proofs, api.Proof{Total: 77})
	for k := range w.Proofs {
		w.Proofs[k].Aunts = roomy(w.Proofs[k].Aunts, api.Hash{77})
	}
	whole := copyOfWitness(api.Witness{Rest: w.Rest, Accounts: w.Accounts[:cap(w.Accounts)], Proofs: w.Proofs[:cap(w.Proofs)]})
	wantRead(t, "P8.17", root, 5, w, api.Account{})
	if !reflect.DeepEqual(whole, api.Witness{Rest: w.Rest, Accounts: w.Accounts[:cap(w.Accounts)], Proofs: w.Proofs[:cap(w.Proofs)]}) || w.Proofs[0].Aunts[:len(w.Proofs[0].Aunts)+1][len(w.Proofs[0].Aunts)] != (api.Hash{77}) {
		t.Errorf("G3: Verify has changed what it was handed")
	}
}

// TestEmptyListsAreNilLists: they mean the same.
func TestEmptyListsAreNilLists(t *testing.T) {
	full := api.Ledger{Accounts: []api.Account{}, Releases: []api.Release{}}
	for _, l := range []api.Ledger{{}, full, roomyLedger(full)} {
		wantErr(t, "G1", ledger.Sound(l), api.OK)
		if mustRoot(t, l) != mustRoot(t, api.Ledger{}) || len(ledger.Seats(l, params)) != 0 {
			t.Errorf("G1: an empty ledger")
		}
		m, e := ledger.Pay(l, 3)
		wantLedger(t, "G1: Pay", m, e, api.Ledger{})
		m, e = ledger.New(l.Accounts)
		wantLedger(t, "G1: New", m, e, api.Ledger{})
	}
	for _, w := range []api.Witness{{}, {Accounts: []api.Account{}, Proofs: []api.Proof{}}} {
		w.Rest = modelRest(api.Ledger{})
		wantRead(t, "G1", mustRoot(t, api.Ledger{}), 4, w, api.Account{})
	}
}

// TestSpoiltLedgers: over a ledger that is not sound nothing is promised, but that each call ends, does not panic and leaves what it was given.
func TestSpoiltLedgers(t *testing.T) {
	r := rand.New(rand.NewSource(90))
	b := newBook(t, everybody...)
	numbers := []uint64{0, 1, 2, 5, 999, 1000, 1001, supply, supply + 1, api.MaxHeight, api.MaxHeight + 1, math.MaxUint64 - 1, math.MaxUint64}
	some := func() uint64 { return numbers[r.Intn(len(numbers))] }
	for range 20000 {
		var l api.Ledger
		for range r.Intn(7) {
			l.Accounts = append(l.Accounts, api.Account{Addr: api.Addr(r.Intn(8)), Balance: some(), Bond: some(), Nonce: some(), Jailed: r.Intn(2) == 0})
		}
		for range r.Intn(7) {
			l.Releases = append(l.Releases, api.Release{Height: some(), Addr: api.Addr(r.Intn(8)), Born: some(), Amount: some()})
		}
		l.Burnt, l.Supply = some(), some()
		l = roomyLedger(l)
		was := copyOf(within(l))
		p := api.Params{MinBond: some(), Seats: int(some()), Slash: some(), Period: some()}
		x := b.sealed(someTx(r, l))
		ledger.Sound(l)
		ledger.Check(l, b.r, name, p, some(), x)
		ledger.Apply(l, b.r, name, p, some(), api.Addr(some()), x)
		ledger.Apply(l, b.r, name, params, 5, api.Addr(r.Intn(9)), x)
		ledger.Punish(l, p, api.Addr(r.Intn(9)), some())
		ledger.Punish(l, params, api.Addr(r.Intn(9)), 2)
		ledger.Pay(l, some())
		ledger.Seats(l, p)
		ledger.Root(l)
		ledger.Prove(l, api.Addr(r.Intn(9)))
		if !sameLedger(within(l), was) {
			t.Fatalf("G3: a call has changed a ledger that is not sound: %v", l)
		}
	}
	huge := api.Ledger{Accounts: many(70000, 9), Releases: manyRows(70000, 105)}
	x := b.sealed(pay(1, math.MaxUint64, 1, 1, 0))
	ledger.Apply(huge, b.r, name, params, 5, 3, x)
	ledger.Punish(huge, params, 1, 1)
	ledger.Pay(huge, 2000)
	ledger.Seats(huge, params)
}

// TestAgainTheSame: the same arguments, the same answers.
func TestAgainTheSame(t *testing.T) {
	b := newBook(t, everybody...)
	for seed := range int64(50) {
		l := someSound(rand.New(rand.NewSource(seed)))
		x := answers(b, l, rand.New(rand.NewSource(seed)))
		y := answers(b, copyOf(l), rand.New(rand.NewSource(seed)))
		if !slices.EqualFunc(x, y, sameLedger) {
			t.Fatalf("G4: other answers of %v", l)
		}
		p := api.Params{Seats: 5}
		for range 20 {
			if !slices.Equal(ledger.Seats(l, p), modelSeats(l, p)) {
				t.Fatalf("G4: other seats of %v", l)
			}
		}
	}
}
