package misdeed_test

import (
	"math"
	"math/rand"
	"reflect"
	"slices"
	"testing"

	"assent/api"
	"assent/misdeed"
	"assent/seal"
)

// copyOf is what an object holds in another place: no New made that.
func copyOf[T any](was *T) *T {
	c := reflect.New(reflect.TypeFor[T]())
	c.Elem().Set(reflect.ValueOf(was).Elem())
	return c.Interface().(*T)
}

func TestNotMade(t *testing.T) {
	w := examples(t)
	x, y := w.ev(15, 1), w.ev(16, 2)
	w.fill(x)
	count := w.r.Count()
	for what, p := range map[string]*misdeed.Pool{"nil": nil, "zero": {}, "a copy": copyOf(w.p)} {
		for _, e := range []api.Evidence{x, y, {}} {
			if got := p.Add(w.st, w.r, e); got != api.ErrNil {
				t.Errorf("G1: %s: Add: error %d", what, got)
			}
			if got := p.Add(api.State{}, nil, e); got != api.ErrNil {
				t.Errorf("G1: %s: Add of nothing: error %d", what, got)
			}
		}
		p.Settle(w.st, []api.Evidence{x})
		p.Settle(api.State{}, nil)
		if p.Len() != 0 || len(p.Pick(w.st, w.r)) != 0 || len(p.Pick(api.State{}, nil)) != 0 {
			t.Errorf("G1: %s: something waits", what)
		}
	}
	w.wantPick("behind the calls of others", x)
	for what, r := range map[string]*seal.Registry{"nil": nil, "zero": {}, "a copy": copyOf(w.r)} {
		for _, e := range []api.Evidence{x, y, {}} {
			if got := misdeed.Verify(w.st, r, e); got != api.ErrNil {
				t.Errorf("G1: a registry that is %s: Verify: error %d", what, got)
			}
			if got := misdeed.Verify(api.State{}, r, e); got != api.ErrNil {
				t.Errorf("G1: a registry that is %s: Verify behind nothing: error %d", what, got)
			}
			w.addBehind("a registry that is "+what, w.st, r, e, api.ErrNil)
			w.addBehind("a registry that is "+what+", and no state", api.State{}, r, e, api.ErrNil)
		}
		if got := w.p.Pick(w.st, r); len(got) != 0 {
			t.Errorf("P11.5: a registry that is %s: %s", what, told(got))
		}
	}
	w.wantPick("with the registry", x)
	if w.r.Known(0) || w.r.Count() != count {
		t.Errorf("G3: the registry has changed")
	}
}

// TestNothingPanics: evidence and states of whatever content.
func TestNothingPanics(t *testing.T) {
	r := rand.New(rand.NewSource(117))
	number := func() uint64 { return edges[r.Intn(len(edges))] }
	some := func() api.Vote {
		v := api.Vote{Kind: r.Intn(4), Height: number(), Round: int(number()), Time: number(), From: api.Addr(number())}
		v.Id[r.Intn(32)], v.Seal[r.Intn(16)] = byte(r.Intn(3)), byte(r.Intn(3))
		return v
	}
	council := func() (c api.Council) {
		for range r.Intn(4) {
			c.Members = append(c.Members, api.Member{Addr: api.Addr(number()), Power: number(), Priority: int64(number())})
		}
		return c
	}
	state := func() api.State {
		st := api.State{Chain: []string{"", name, "seventeen letters"}[r.Intn(3)], Height: number(), Time: number(), Council: council(), Next: council()}
		st.Params = api.Params{Age: number(), Seats: int(number()), MaxTxs: int(number())}
		for range r.Intn(5) {
			st.Past = append(st.Past, api.Past{Height: number(), Time: number(), Council: council()})
			st.Punished = append(st.Punished, api.Offence{Height: number(), Addr: api.Addr(number())})
		}
		return st
	}
	w := examples(t)
	for range 4000 {
		a, b := some(), some()
		if r.Intn(2) == 0 {
			b.Kind, b.Height, b.Round, b.From = a.Kind, a.Height, a.Round, a.From
		}
		if e, got := misdeed.Pair(a, b); got != modelPair(a, b) || got != api.OK && e != (api.Evidence{}) {
			t.Fatalf("P11.1: %v and %v: error %d", a, b, got)
		}
		e, st := api.Evidence{A: a, B: b}, state()
		if got, want := misdeed.Verify(st, w.r, e), modelVerify(st, w.r, e); got != want {
			t.Fatalf("P11.2: %v behind %v: error %d, want %d", e, st, got, want)
		}
		w.p.Add(st, w.r, e)
		near := only(a.Height, a.From)
		w.addBehind("whom nobody has seen sign", near, w.r, e, modelVerify(near, w.r, e))
		w.p.Pick(st, w.r)
		w.p.Settle(st, []api.Evidence{e, {A: some()}})
	}
	if w.p.Len() != 0 {
		t.Errorf("P11.4: %d wait, and nobody has signed anything", w.p.Len())
	}
}

// roomy is the same list with room behind it, in which something stands.
func roomy[T any](list []T, behind T) []T {
	return append(slices.Clone(list), behind, behind, behind)[:len(list)]
}

func spoil[T any](list []T, with T) {
	list = list[:cap(list)]
	for k := range list {
		list[k] = with
	}
}

// roomyState: what stands in the room would be a good entry, and an offence of one that waits.
func roomyState(st api.State) api.State {
	st.Past = roomy(st.Past, api.Past{Height: 15, Council: seats(1, 2, 3, 4, 5)})
	for k := range st.Past {
		st.Past[k].Council.Members = roomy(st.Past[k].Council.Members, api.Member{Addr: 5, Power: 1})
	}
	st.Punished = roomy(st.Punished, api.Offence{Height: 15, Addr: 1})
	return st
}

// within is all that lies in a state's lists and in the room behind them, copied.
func within(st api.State) api.State {
	st.Past = slices.Clone(st.Past[:cap(st.Past)])
	for k, p := range st.Past {
		st.Past[k].Council.Members = slices.Clone(p.Council.Members[:cap(p.Council.Members)])
	}
	st.Punished = slices.Clone(st.Punished[:cap(st.Punished)])
	return st
}

func spoilState(st api.State) {
	for _, p := range st.Past[:cap(st.Past)] {
		spoil(p.Council.Members, api.Member{Addr: 99})
	}
	spoil(st.Past, api.Past{Height: 99})
	spoil(st.Punished, api.Offence{Height: 16, Addr: 2})
}

// TestHandedIn: no call changes a state or a list, or the room behind them, or keeps them.
func TestHandedIn(t *testing.T) {
	r := rand.New(rand.NewSource(118))
	for range 60 {
		w := examples(t)
		m := &model{}
		for k := range 40 {
			st := roomyState(someState(r))
			was := within(st)
			e := w.someEvidence(r)
			if got, want := misdeed.Verify(st, w.r, e), modelVerify(st, w.r, e); got != want {
				t.Fatalf("P11.2: error %d, want %d", got, want)
			}
			if got, want := w.p.Add(st, w.r, e), m.add(st, w.r, e); got != want {
				t.Fatalf("P11.4: error %d, want %d", got, want)
			}
			picked := w.p.Pick(st, w.r)
			kept := slices.Clone(picked)
			done := roomy(w.someDone(r), w.ev(15, 1))
			wasDone := slices.Clone(done[:cap(done)])
			if k%8 == 7 {
				w.p.Settle(st, done)
				m.settle(st, done)
			}
			if !reflect.DeepEqual(within(st), was) || !slices.Equal(done[:cap(done)], wasDone) {
				t.Fatalf("G3: a call has changed what it was handed")
			}
			spoilState(st)
			spoil(done, w.ev(16, 2))
			if !slices.Equal(picked, kept) {
				t.Fatalf("G3: Pick has handed out what it was handed")
			}
			w.wantModel(w.st, m)
		}
	}
}

// TestAnswersAreNew: what is written over an answer changes neither the pool nor another answer.
func TestAnswersAreNew(t *testing.T) {
	w := examples(t)
	for height := uint64(11); height <= 20; height++ {
		w.fill(w.ev(height, 3), w.ev(height, 1))
	}
	first := w.p.Pick(w.st, w.r)
	want := slices.Clone(first)
	for range 3 {
		spoil(w.p.Pick(w.st, w.r), api.Evidence{A: api.Vote{Height: 15, From: 2}})
		if !slices.Equal(first, want) {
			t.Fatalf("G3: an answer was changed by another")
		}
		w.wantPick("an answer was written over", want...)
	}
	w.p.Settle(w.st, want[:5])
	if !slices.Equal(first, want) {
		t.Errorf("G3: Settle has changed an answer")
	}
}

// TestAgainTheSame: the same calls, the same answers, whatever order a map is gone through in.
func TestAgainTheSame(t *testing.T) {
	type answer struct {
		add, verify api.Errno
		picked      []api.Evidence
		n           int
	}
	run := func(seed int64) (all []answer) {
		r := rand.New(rand.NewSource(seed))
		w := examples(t)
		for k := range 150 {
			st, e := someState(r), w.someEvidence(r)
			a := answer{add: w.p.Add(st, w.r, e), verify: misdeed.Verify(st, w.r, e), picked: w.p.Pick(st, w.r)}
			if k%30 == 29 {
				w.p.Settle(st, w.someDone(r))
			}
			a.n = w.p.Len()
			all = append(all, a)
		}
		return all
	}
	for seed := range int64(8) {
		if !reflect.DeepEqual(run(seed), run(seed)) {
			t.Fatalf("G4: the calls of the seed %d are answered otherwise", seed)
		}
	}
}

// TestEmptyLists: nil lists and empty ones mean the same.
func TestEmptyLists(t *testing.T) {
	w := examples(t)
	e := w.ev(15, 1)
	w.fill(e)
	for _, st := range []api.State{
		{Chain: name, Height: 20, Params: api.Params{Age: math.MaxUint64}},
		{Chain: name, Height: 20, Params: api.Params{Age: math.MaxUint64}, Past: []api.Past{}, Punished: []api.Offence{}},
	} {
		w.verify("no entries", st, e, api.ErrAge)
		w.wantPickBehind("no entries", st)
		st.Past = []api.Past{{Height: 15}}
		w.verify("nobody", st, e, api.ErrMember)
		st.Past[0].Council.Members = []api.Member{}
		w.verify("nobody", st, e, api.ErrMember)
		w.settle("the height has an entry", st, []api.Evidence{}, e)
	}
}
