package misdeed_test

import (
	"fmt"
	"math"
	"math/rand"
	"slices"
	"testing"

	"assent/api"
	"assent/misdeed"
	"assent/seal"
	"assent/wire"
)

const (
	name      = "c"
	prevote   = api.Prevote
	precommit = api.Precommit
)

// world is a registry with its signers, a state, and a pool.
type world struct {
	t       *testing.T
	r       *seal.Registry
	signers map[api.Addr]*seal.Signer
	st      api.State
	p       *misdeed.Pool
}

// examples is the world of the chapter's examples: behind height 20, of which 11 to 20 are counted, decided by 1, 2 and 3.
func examples(t *testing.T) *world {
	return &world{t: t, r: seal.New(), signers: map[api.Addr]*seal.Signer{}, st: stateOf(20, 10, 11, seats(1, 2, 3)), p: misdeed.New()}
}

func seats(addrs ...api.Addr) (c api.Council) {
	for _, a := range addrs {
		c.Members = append(c.Members, api.Member{Addr: a, Power: 1})
	}
	return c
}

// stateOf is behind a height, and has entries from first on, of one council all.
func stateOf(height, age, first uint64, c api.Council) api.State {
	st := api.State{Chain: name, Height: height, Params: api.Params{Age: age}}
	for h := first; h <= height; h++ {
		st.Past = append(st.Past, api.Past{Height: h, Time: 100 + h, Council: api.Council{Members: slices.Clone(c.Members)}})
	}
	return st
}

// only is a state behind which nothing but one pair is let.
func only(height uint64, a api.Addr) api.State {
	return api.State{Chain: name, Height: height, Params: api.Params{Age: 1}, Past: []api.Past{{Height: height, Council: seats(a)}}}
}

func (w *world) sign(chain string, v api.Vote) api.Vote {
	w.t.Helper()
	if w.signers[v.From] == nil {
		w.signers[v.From], _ = w.r.Enter(v.From)
	}
	msg, e := wire.VoteBytes(chain, v)
	if e != api.OK {
		w.t.Fatalf("VoteBytes of %v: error %d", v, e)
	}
	v.Seal, _ = w.signers[v.From].Sign(msg)
	return v
}

func vote(kind int, height uint64, round int, id byte, from api.Addr) api.Vote {
	return api.Vote{Kind: kind, Height: height, Round: round, Id: api.Hash{id}, From: from}
}

// v is a sealed vote.
func (w *world) v(kind int, height uint64, round int, id byte, from api.Addr) api.Vote {
	w.t.Helper()
	return w.sign(name, vote(kind, height, round, id, from))
}

func mustPair(t *testing.T, a, b api.Vote) api.Evidence {
	t.Helper()
	e, no := misdeed.Pair(a, b)
	if no != api.OK {
		t.Fatalf("P11.1: Pair of %v and %v: error %d", a, b, no)
	}
	return e
}

// proof is one of many that a member may have given at a height.
func (w *world) proof(height uint64, from api.Addr, kind, round int) api.Evidence {
	w.t.Helper()
	return mustPair(w.t, w.v(kind, height, round, 1, from), w.v(kind, height, round, 2, from))
}

func (w *world) ev(height uint64, from api.Addr) api.Evidence {
	w.t.Helper()
	return w.proof(height, from, prevote, 0)
}

func (w *world) verify(what string, st api.State, e api.Evidence, want api.Errno) {
	w.t.Helper()
	if got := misdeed.Verify(st, w.r, e); got != want {
		w.t.Errorf("P11.2: %s: error %d, want %d", what, got, want)
	}
}

func told(list []api.Evidence) (s string) {
	for _, e := range list {
		s += fmt.Sprintf("(height %d, from %d, kind %d, round %d)", e.A.Height, e.A.From, e.A.Kind, e.A.Round)
	}
	return s
}

func TestExamples(t *testing.T) {
	w := examples(t)
	one, two := w.v(prevote, 15, 0, 1, 1), w.v(prevote, 15, 0, 2, 1)
	first := mustPair(t, two, one)
	if first.A != one || first.B != two {
		t.Errorf("P11.1: %v", first)
	}
	none := w.v(prevote, 15, 0, 0, 1)
	if e := mustPair(t, one, none); e.A != none || e.B != one {
		t.Errorf("P11.1: of one for none: %v", e)
	}
	w.verify("the first", w.st, first, api.OK)
	w.verify("changed about", w.st, api.Evidence{A: first.B, B: first.A}, api.ErrPair)
	for height, want := range map[uint64]api.Errno{10: api.ErrAge, 11: api.OK, 20: api.OK, 21: api.ErrAge} {
		w.verify(fmt.Sprint("of height ", height), w.st, w.ev(height, 1), want)
	}
	w.verify("by member 4", w.st, w.ev(15, 4), api.ErrMember)
	wrong := first
	wrong.B.Seal[0]++
	w.verify("a wrong seal", w.st, wrong, api.ErrSeal)
	st := w.st
	st.Punished = []api.Offence{{Height: 15, Addr: 1}}
	w.verify("punished, and a wrong seal", st, wrong, api.ErrDone)
	w.add("the first", first, api.OK)
	w.add("again", first, api.ErrKnown)
	w.add("another one", w.proof(15, 1, precommit, 2), api.ErrKnown)

	w = examples(t)
	a, b, c := w.ev(16, 2), w.ev(15, 3), w.ev(15, 1)
	w.fill(a, b, c)
	w.wantPick("three", c, b, a)
	w.settle("16 to 25 are counted", stateOf(25, 10, 16, seats(1, 2, 3)), nil, a)
	w.settle("another one of that pair", stateOf(25, 10, 16, seats(1, 2, 3)), []api.Evidence{w.proof(16, 2, precommit, 7)})
	if w.p.Len() != 0 {
		t.Errorf("P11.6: %d wait", w.p.Len())
	}
}

// wantNoPair: of the two in either order.
func wantNoPair(t *testing.T, what string, a, b api.Vote, want api.Errno) {
	t.Helper()
	for _, x := range [][2]api.Vote{{a, b}, {b, a}} {
		if e, got := misdeed.Pair(x[0], x[1]); got != want || e != (api.Evidence{}) {
			t.Errorf("P11.1: %s: %v, error %d, want none and %d", what, e, got, want)
		}
	}
}

func TestPairRefusesOtherVotes(t *testing.T) {
	for _, kind := range []int{prevote, precommit} {
		one, two := vote(kind, 15, 3, 1, 7), vote(kind, 15, 3, 2, 7)
		mustPair(t, one, two)
		wantNoPair(t, "one vote and itself", one, one, api.ErrPair)
		wantNoPair(t, "unlike kinds", one, vote(prevote+precommit-kind, 15, 3, 2, 7), api.ErrPair)
		wantNoPair(t, "unlike heights", one, vote(kind, 16, 3, 2, 7), api.ErrPair)
		wantNoPair(t, "unlike rounds", one, vote(kind, 15, 4, 2, 7), api.ErrPair)
		wantNoPair(t, "unlike members", one, vote(kind, 15, 3, 2, 8), api.ErrPair)
		sealed := one
		sealed.Seal[5] = 9
		wantNoPair(t, "unlike seals alone", one, sealed, api.ErrPair)
		wantNoPair(t, "none and none", vote(kind, 15, 3, 0, 7), vote(kind, 15, 3, 0, 7), api.ErrPair)
	}
	early, late := vote(precommit, 15, 3, 1, 7), vote(precommit, 15, 3, 1, 7)
	late.Time = 50
	wantNoPair(t, "unlike times alone", early, late, api.ErrPair)
	other := vote(precommit, 15, 3, 2, 7)
	if e := mustPair(t, other, late); e.A != late || e.B != other {
		t.Errorf("P11.1: of unlike times and ids: %v", e)
	}
}

// TestPairOrder: ids are compared byte by byte, the first one first, and a byte is no number with a sign.
func TestPairOrder(t *testing.T) {
	last := func(b byte) (h api.Hash) { h[31] = b; return h }
	for _, c := range [][2]api.Hash{
		{{}, last(1)},
		{last(1), last(2)},
		{last(127), last(128)},
		{last(255), {1}},
		{{0, 255, 255}, {1}},
		{{1, 0, 9}, {1, 1, 0}},
		{{127, 255}, {128}},
		{{254, 255, 255}, {255}},
		{{}, {255}},
	} {
		a, b := vote(prevote, 1, 0, 0, 1), vote(prevote, 1, 0, 0, 1)
		a.Id, b.Id = c[0], c[1]
		a.Seal, b.Seal = api.Seal{9}, api.Seal{1}
		want := api.Evidence{A: a, B: b}
		if got := mustPair(t, a, b); got != want {
			t.Errorf("P11.1: %v", got)
		}
		if got := mustPair(t, b, a); got != want {
			t.Errorf("P11.8: %v", got)
		}
	}
}

// TestPairRefusesWhatIsNotPlain: the first vote ahead of the second, and both ahead of ErrPair.
func TestPairRefusesWhatIsNotPlain(t *testing.T) {
	good := vote(precommit, 15, 3, 1, 7)
	change := func(f func(*api.Vote)) api.Vote {
		v := vote(precommit, 15, 3, 2, 7)
		f(&v)
		return v
	}
	noKind, noField := change(func(v *api.Vote) { v.Kind = 3 }), change(func(v *api.Vote) { v.From = 0 })
	for what, v := range map[string]api.Vote{
		"kind 0": change(func(v *api.Vote) { v.Kind = 0 }), "kind 3": noKind, "the least kind": change(func(v *api.Vote) { v.Kind = math.MinInt }),
		"no kind and no field": change(func(v *api.Vote) { v.Kind, v.Height, v.From = 9, 0, 0 }), "the zero vote": {},
	} {
		wantNoPair(t, what, good, v, api.ErrKind)
		wantNoPair(t, what+" twice", v, v, api.ErrKind)
	}
	for what, v := range map[string]api.Vote{
		"height 0": change(func(v *api.Vote) { v.Height = 0 }), "too high": change(func(v *api.Vote) { v.Height = api.MaxHeight + 1 }),
		"the greatest height": change(func(v *api.Vote) { v.Height = math.MaxUint64 }),
		"round -1":            change(func(v *api.Vote) { v.Round = -1 }), "too late a round": change(func(v *api.Vote) { v.Round = api.MaxRound + 1 }),
		"too late":              change(func(v *api.Vote) { v.Time = api.MaxTime + 1 }),
		"a prevote's time":      change(func(v *api.Vote) { v.Kind, v.Time = prevote, 1 }),
		"a time of none":        change(func(v *api.Vote) { v.Id, v.Time = api.Hash{}, 1 }),
		"from nobody":           noField,
		"too late, from nobody": change(func(v *api.Vote) { v.Round, v.From = math.MaxInt, 0 }),
	} {
		wantNoPair(t, what, good, v, api.ErrField)
		wantNoPair(t, what+" twice", v, v, api.ErrField)
	}
	if _, got := misdeed.Pair(noKind, noField); got != api.ErrKind {
		t.Errorf("P11.1: the first one has no kind: error %d", got)
	}
	if _, got := misdeed.Pair(noField, noKind); got != api.ErrField {
		t.Errorf("P11.1: the first one has a wrong field: error %d", got)
	}
}

// TestPairEdges: the greatest numbers that are plain make evidence like others.
func TestPairEdges(t *testing.T) {
	a := api.Vote{Kind: precommit, Height: api.MaxHeight, Round: api.MaxRound, Id: api.Hash{1}, Time: api.MaxTime, From: math.MaxUint64}
	b := a
	b.Id[31] = 1
	if e := mustPair(t, b, a); e.A != a || e.B != b {
		t.Errorf("P11.1: %v", e)
	}
	b = api.Vote{Kind: precommit, Height: api.MaxHeight, Round: api.MaxRound, From: math.MaxUint64}
	if e := mustPair(t, a, b); e.A != b || e.B != a {
		t.Errorf("P11.1: %v", e)
	}
}

// someVote is plain, mostly.
func someVote(r *rand.Rand) api.Vote {
	v := vote(1+r.Intn(2), uint64(1+r.Intn(2)), r.Intn(2), byte(r.Intn(3)), api.Addr(1+r.Intn(2)))
	v.Seal[r.Intn(16)] = byte(r.Intn(2))
	if v.Kind == precommit && v.Id != (api.Hash{}) || r.Intn(20) == 0 {
		v.Time = uint64(r.Intn(3))
	}
	if r.Intn(20) == 0 {
		v.Kind = r.Intn(5) - 1
	}
	return v
}

// TestPairByWords: of any two votes, and P11.8: in either order the same.
func TestPairByWords(t *testing.T) {
	r := rand.New(rand.NewSource(111))
	made := 0
	for range 20000 {
		a, b := someVote(r), someVote(r)
		e, got := misdeed.Pair(a, b)
		if want := modelPair(a, b); got != want {
			t.Fatalf("P11.1: %v and %v: error %d, want %d", a, b, got, want)
		}
		if got != api.OK {
			if e != (api.Evidence{}) {
				t.Fatalf("G2: %v beside an error", e)
			}
			continue
		}
		made++
		if e.A != a && e.A != b || e.B != a && e.B != b || !modelBelow(e.A.Id, e.B.Id) {
			t.Fatalf("P11.1: %v and %v: %v", a, b, e)
		}
		if other := mustPair(t, b, a); other != e {
			t.Fatalf("P11.8: %v and %v", e, other)
		}
		if wire.PlainEvidence(e) != api.OK {
			t.Fatalf("P11.1: %v is not plain", e)
		}
	}
	if made < 100 {
		t.Errorf("only %d pairs were made", made)
	}
}
