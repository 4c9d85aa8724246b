package misdeed_test

import (
	"fmt"
	"math"
	"math/rand"
	"slices"
	"testing"

	"assent/api"
	"assent/misdeed"
	"assent/seal"
	"assent/wire"
)

// TestVerifyErrorsInOrder: of all that is wrong it is the first that is answered, as one thing after the other is mended.
func TestVerifyErrorsInOrder(t *testing.T) {
	w := examples(t)
	e := w.ev(9, 4)
	e.A, e.B = e.B, e.A
	e.A.Kind, e.B.From = 3, 0
	e.A.Seal, e.B.Seal = api.Seal{}, api.Seal{}
	st := w.st
	st.Chain = ""
	st.Punished = []api.Offence{{Height: 9, Addr: 4}, {Height: 12, Addr: 4}, {Height: 12, Addr: 3}}
	for _, r := range []*seal.Registry{nil, {}, copyOf(w.r)} {
		if got := misdeed.Verify(st, r, e); got != api.ErrNil {
			t.Errorf("P11.2: no registry: error %d", got)
		}
	}
	w.verify("A has no kind", st, e, api.ErrKind)
	e.A.Kind = prevote
	w.verify("B is from nobody", st, e, api.ErrField)
	e.B.From = 5
	w.verify("of two members", st, e, api.ErrPair)
	e.B.From = 4
	w.verify("turned", st, e, api.ErrPair)
	e.A, e.B = e.B, e.A
	w.verify("too old", st, e, api.ErrAge)
	e.A.Height, e.B.Height = 21, 21
	w.verify("not yet", st, e, api.ErrAge)
	e.A.Height, e.B.Height = 12, 12
	gap := st
	gap.Past = slices.Concat(st.Past[:1], st.Past[2:])
	w.verify("without an entry", gap, e, api.ErrAge)
	w.verify("no member", st, e, api.ErrMember)
	e.A.From, e.B.From = 3, 3
	w.verify("punished", st, e, api.ErrDone)
	st.Punished = nil
	w.verify("no chain's name", st, e, api.ErrSeal)
	st.Chain = name
	w.verify("no seals", st, e, api.ErrSeal)
	e.A = w.sign(name, e.A)
	w.verify("B's seal is wrong", st, e, api.ErrSeal)
	e.B = w.sign(name, e.B)
	w.verify("nothing is wrong", st, e, api.OK)
	e.A.Seal = api.Seal{}
	w.verify("A's seal is wrong", st, e, api.ErrSeal)
}

// TestVerifyRefusesWhatPairRefuses: with its errors; two alike are no evidence either.
func TestVerifyRefusesWhatPairRefuses(t *testing.T) {
	w := examples(t)
	one, two := w.v(precommit, 15, 0, 1, 1), w.v(precommit, 15, 0, 2, 1)
	late := vote(precommit, 15, 0, 2, 1)
	late.Time = 9
	late = w.sign(name, late)
	for what, e := range map[string]api.Evidence{
		"one vote twice":     {A: one, B: one},
		"unlike times alone": {A: two, B: late},
		"unlike kinds":       {A: w.v(prevote, 15, 0, 1, 1), B: two},
		"unlike heights":     {A: w.v(precommit, 14, 0, 1, 1), B: two},
		"unlike rounds":      {A: w.v(precommit, 15, 1, 1, 1), B: two},
		"unlike members":     {A: w.v(precommit, 15, 0, 1, 2), B: two},
		"turned":             {A: two, B: one},
		"turned, of none":    {A: one, B: w.v(precommit, 15, 0, 0, 1)},
	} {
		w.verify(what, w.st, e, api.ErrPair)
	}
	w.verify("of none", w.st, api.Evidence{A: w.v(precommit, 15, 0, 0, 1), B: one}, api.OK)
	w.verify("unlike times too", w.st, api.Evidence{A: one, B: late}, api.OK)
	w.verify("the zero evidence", w.st, api.Evidence{}, api.ErrKind)
	w.verify("no A", w.st, api.Evidence{B: two}, api.ErrKind)
	w.verify("no B", w.st, api.Evidence{A: one}, api.ErrKind)
}

// edges are heights and ages at and about the limits, and the least and greatest ones.
var edges = []uint64{0, 1, 2, 3, 10, 19, 20, 21, 255, 256, 257, api.MaxHeight - 1, api.MaxHeight, api.MaxHeight + 1, 1 << 63, math.MaxUint64 - 1, math.MaxUint64}

// TestCounted: at all heights and ages, those that wrap too; Settle counts as Verify does.
func TestCounted(t *testing.T) {
	w := examples(t)
	for _, of := range edges {
		if of < 1 || of > api.MaxHeight {
			continue
		}
		e := w.ev(of, 1)
		for _, height := range edges {
			for _, age := range edges {
				st := api.State{Chain: name, Height: height, Params: api.Params{Age: age}, Past: only(of, 1).Past}
				want := api.ErrAge
				if modelCounted(st, of) {
					want = api.OK
				}
				what := fmt.Sprintf("height %d, age %d, of %d", height, age, of)
				w.verify(what, st, e, want)
				w.p = misdeed.New()
				w.addBehind("to settle", only(of, 1), w.r, e, api.OK)
				w.p.Settle(st, nil)
				if stays := w.p.Len() == 1; stays != (want == api.OK) {
					t.Errorf("P11.6: %s: it stays: %v", what, stays)
				}
			}
		}
	}
}

// TestEntries: it is the first entry of the height that counts, in whatever order they stand, and of its council the members' addresses alone.
func TestEntries(t *testing.T) {
	w := examples(t)
	e := w.ev(15, 2)
	past := func(list ...api.Past) api.State {
		return api.State{Chain: name, Height: 20, Params: api.Params{Age: 10}, Past: list}
	}
	with, without := api.Past{Height: 15, Council: seats(1, 2)}, api.Past{Height: 15, Council: seats(1, 3)}
	other := func(h uint64) api.Past { return api.Past{Height: h, Council: seats(2)} }
	w.verify("one", past(with), e, api.OK)
	w.verify("no entry", past(), e, api.ErrAge)
	w.verify("entries of others", past(other(14), other(16), other(0)), e, api.ErrAge)
	w.verify("falling", past(other(20), other(16), with, other(14)), e, api.OK)
	w.verify("behind others", past(other(1), other(30), with), e, api.OK)
	w.verify("the first has it", past(other(14), with, without), e, api.OK)
	w.verify("the second has it", past(other(14), without, with), e, api.ErrMember)
	w.verify("nobody", past(api.Past{Height: 15}), e, api.ErrMember)
	odd := api.Council{Members: []api.Member{{}, {Addr: 9, Power: math.MaxUint64}, {Addr: 2, Priority: math.MinInt64}, {Addr: 2}, {Addr: 1}}}
	w.verify("no sound council", past(api.Past{Height: 15, Time: math.MaxUint64, Council: odd}), e, api.OK)
	many := api.Council{Members: make([]api.Member, 1000)}
	w.verify("many, of whom it is none", past(api.Past{Height: 15, Council: many}), e, api.ErrMember)
	many.Members[999].Addr = 2
	w.verify("many, of whom it is the last", past(api.Past{Height: 15, Council: many}), e, api.OK)
	st := past(without)
	st.Council, st.Next = seats(2), seats(2)
	w.verify("a member of other heights alone", st, e, api.ErrMember)
	w.verify("an entry that is not counted", api.State{Chain: name, Height: 20, Params: api.Params{Age: 5}, Past: []api.Past{with}}, e, api.ErrAge)
}

func TestPunished(t *testing.T) {
	w := examples(t)
	e := w.ev(15, 2)
	st := w.st
	st.Punished = []api.Offence{{Height: 14, Addr: 2}, {Height: 15, Addr: 1}, {Height: 15, Addr: 3}, {Height: 16, Addr: 2}, {Height: 2, Addr: 15}, {}}
	w.verify("others", st, e, api.OK)
	for k := range st.Punished {
		done := st
		done.Punished = slices.Clone(st.Punished)
		done.Punished[k] = api.Offence{Height: 15, Addr: 2}
		w.verify(fmt.Sprint("at the place ", k), done, e, api.ErrDone)
		w.verify("another proof", done, w.proof(15, 2, precommit, 9), api.ErrDone)
	}
	st.Punished = append(st.Punished, api.Offence{Height: 15, Addr: 2}, api.Offence{Height: 15, Addr: 2})
	w.verify("twice", st, e, api.ErrDone)
}

func TestSeals(t *testing.T) {
	w := examples(t)
	e := w.ev(15, 2)
	for k := range e.A.Seal {
		x := e
		x.A.Seal[k]++
		w.verify("a byte of A's seal", w.st, x, api.ErrSeal)
		x = e
		x.B.Seal[k]--
		w.verify("a byte of B's seal", w.st, x, api.ErrSeal)
	}
	w.verify("the seals changed about", w.st, api.Evidence{A: withSeal(e.A, e.B.Seal), B: withSeal(e.B, e.A.Seal)}, api.ErrSeal)
	w.verify("sealed by another", w.st, from(e, 3), api.ErrSeal)
	w.verify("sealed for another round", w.st, round(e, 1), api.ErrSeal)
	p := w.proof(15, 2, precommit, 0)
	p.B.Time = 7
	w.verify("sealed for another time", w.st, p, api.ErrSeal)
	if got := misdeed.Verify(w.st, seal.New(), e); got != api.ErrSeal {
		t.Errorf("P11.2: another registry: error %d", got)
	}
	for _, chain := range []string{"", "d", "cc", "seventeen letters", string(make([]byte, 1000))} {
		st := w.st
		st.Chain = chain
		w.verify("another chain: "+chain, st, e, api.ErrSeal)
	}
	st := w.st
	st.Chain = "sixteen letters!"
	a, b := w.sign(st.Chain, vote(prevote, 15, 3, 1, 2)), w.sign(st.Chain, vote(prevote, 15, 3, 2, 2))
	w.verify("the longest name", st, mustPair(t, a, b), api.OK)
	w.verify("signed for another chain", w.st, mustPair(t, a, b), api.ErrSeal)
}

func withSeal(v api.Vote, s api.Seal) api.Vote { v.Seal = s; return v }

func from(e api.Evidence, a api.Addr) api.Evidence { e.A.From, e.B.From = a, a; return e }

func round(e api.Evidence, n int) api.Evidence { e.A.Round, e.B.Round = n, n; return e }

// TestForged: a seal that was reckoned is good as soon as the vote was signed, and not before.
func TestForged(t *testing.T) {
	w, other := examples(t), examples(t)
	w.v(prevote, 15, 0, 1, 2)
	e := other.ev(15, 2)
	w.verify("one of the two was signed", w.st, e, api.ErrSeal)
	w.add("one of the two was signed", e, api.ErrSeal)
	w.v(prevote, 15, 0, 2, 2)
	w.verify("both were signed", w.st, e, api.OK)
	w.add("both were signed", e, api.OK)
}

// TestNothingElseOfTheState: a state that is none is looked at no more than the chapter says.
func TestNothingElseOfTheState(t *testing.T) {
	w := examples(t)
	e := w.ev(15, 2)
	st := w.st
	st.Params = api.Params{Age: 10, Seats: -1, MaxTxs: -1, Slash: math.MaxUint64, Period: 0}
	st.Time, st.Last = math.MaxUint64, api.Hash{1}
	st.Council, st.Next = api.Council{}, api.Council{Members: []api.Member{{}, {}}}
	st.Ledger = api.Ledger{Accounts: []api.Account{{}, {}}, Burnt: math.MaxUint64, Supply: 1}
	w.verify("no chain's state", st, e, api.OK)
	w.addBehind("no chain's state", st, w.r, e, api.OK)
	if got := w.p.Pick(st, w.r); !slices.Equal(got, []api.Evidence{e}) {
		t.Errorf("P11.5: behind no chain's state: %s", told(got))
	}
	w.settle("no chain's state", st, nil, e)
}

// TestLetAgain is P11.8's second line.
func TestLetAgain(t *testing.T) {
	w := examples(t)
	r := rand.New(rand.NewSource(112))
	let := 0
	for range 3000 {
		e := w.someEvidence(r)
		if misdeed.Verify(w.st, w.r, e) != api.OK {
			continue
		}
		let++
		if mustPair(t, e.A, e.B) != e || mustPair(t, e.B, e.A) != e {
			t.Fatalf("P11.8: %v is made otherwise", e)
		}
	}
	if let < 100 {
		t.Errorf("only %d were let", let)
	}
}

// TestNeverAnHonestOne is P11.9: some sign what they like, others one vote of a kind, height and round; whoever forges what of all seals that there are, no honest one is shown.
func TestNeverAnHonestOne(t *testing.T) {
	r := rand.New(rand.NewSource(113))
	let := 0
	for range 30 {
		w := examples(t)
		var votes []api.Vote
		type place struct {
			kind  int
			round int
			from  api.Addr
		}
		signed := map[place]int{}
		for range 60 {
			v := vote(1+r.Intn(2), 15, r.Intn(2), byte(r.Intn(3)), api.Addr(1+r.Intn(3)))
			if v.Kind == precommit && v.Id[0] > 0 {
				v.Time = uint64(r.Intn(2))
			}
			at := place{v.Kind, v.Round, v.From}
			if signed[at]++; v.From == 1 || signed[at] == 1 {
				v = w.sign(name, v)
			} else {
				v.Seal = votes[r.Intn(len(votes))].Seal
			}
			votes = append(votes, v)
		}
		for _, a := range votes {
			for _, b := range votes {
				e := api.Evidence{A: a, B: b}
				if misdeed.Verify(w.st, w.r, e) != api.OK {
					continue
				}
				let++
				if a.From != 1 {
					t.Fatalf("P11.9: an honest one is shown: %v", e)
				}
				w.wantSigned(a)
				w.wantSigned(b)
			}
		}
	}
	if let < 100 {
		t.Errorf("only %d were let", let)
	}
}

func (w *world) wantSigned(v api.Vote) {
	w.t.Helper()
	msg, _ := wire.VoteBytes(name, v)
	if !slices.ContainsFunc(w.r.Signed(v.From), func(m []byte) bool { return string(m) == string(msg) }) {
		w.t.Fatalf("P11.9: %v was not signed", v)
	}
}
