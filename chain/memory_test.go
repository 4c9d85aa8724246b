package chain_test

import (
	"math"
	"math/rand"
	"reflect"
	"runtime"
	"slices"
	"sync"
	"testing"
	"time"

	"assent/api"
	"assent/chain"
	"assent/seal"
)

// copyOf is what an object holds in another place: no New made that.
func copyOf[T any](was *T) *T {
	c := reflect.New(reflect.TypeFor[T]())
	c.Elem().Set(reflect.ValueOf(was).Elem())
	return c.Interface().(*T)
}

// TestNoRegistry: ErrNil is ahead of all else, and nobody is entered by asking.
func TestNoRegistry(t *testing.T) {
	w, b := bendWorld(t)
	count := w.r.Count()
	for what, r := range map[string]*seal.Registry{"nil": nil, "zero": {}, "a copy": copyOf(w.r)} {
		for _, st := range []api.State{w.st, {}} {
			for _, b := range []api.Block{b, {}} {
				made, e := chain.Make(st, r, b.Txs, b.Evidence, b.Last, 1)
				if e != api.ErrNil || !reflect.DeepEqual(made, api.Block{}) {
					t.Errorf("G1: a registry that is %s: Make: error %d", what, e)
				}
				if e := chain.Valid(st, r, b); e != api.ErrNil {
					t.Errorf("G1: a registry that is %s: Valid: error %d", what, e)
				}
				behind, e := chain.Apply(st, r, b)
				if e != api.ErrNil || !reflect.DeepEqual(behind, api.State{}) {
					t.Errorf("G1: a registry that is %s: Apply: error %d", what, e)
				}
				for _, c := range []api.Council{w.ahead(), {}} {
					if e := chain.CheckCert(c, r, st.Chain, b.Last); e != api.ErrNil {
						t.Errorf("G1: a registry that is %s: CheckCert: error %d", what, e)
					}
				}
			}
		}
	}
	w.valid("with the registry", b, api.OK)
	if w.r.Known(0) || w.r.Count() != count {
		t.Errorf("G3: the registry has changed")
	}
}

// edges are numbers at which something might wrap.
var edges = []uint64{0, 1, 2, 3, 4, 5, 10, 64, 1000, api.MaxRound, api.MaxTicks, api.MaxHeight, api.MaxHeight + 1, api.MaxTime, api.MaxTime + 1, api.MaxSupply, api.MaxSupply + 1, math.MaxInt64, math.MaxInt64 + 1, math.MaxUint64 - 1, math.MaxUint64}

// fill lays any numbers into all that a value has, and lists of a few elements.
func fill(r *rand.Rand, v reflect.Value) {
	switch v.Kind() {
	case reflect.Struct:
		for k := range v.NumField() {
			fill(r, v.Field(k))
		}
	case reflect.Array:
		v.Index(r.Intn(v.Len())).SetUint(uint64(r.Intn(3)))
	case reflect.Slice:
		v.Set(reflect.MakeSlice(v.Type(), r.Intn(4), 4))
		for k := range v.Len() {
			fill(r, v.Index(k))
		}
	case reflect.Uint64:
		v.SetUint(edges[r.Intn(len(edges))])
	case reflect.Int, reflect.Int64:
		v.SetInt(int64(edges[r.Intn(len(edges))]))
	case reflect.String:
		v.SetString([]string{"", name, "seventeen letters"}[r.Intn(3)])
	case reflect.Bool:
		v.SetBool(r.Intn(2) == 0)
	default:
		panic(v.Kind())
	}
}

func anything[T any](r *rand.Rand) (x T) {
	fill(r, reflect.ValueOf(&x).Elem())
	return x
}

// spoilt is a value of which one part holds something else.
func spoilt[T any](r *rand.Rand, x T) T {
	v := reflect.ValueOf(&x).Elem()
	for {
		switch {
		case v.Kind() == reflect.Struct:
			v = v.Field(r.Intn(v.NumField()))
		case v.Kind() == reflect.Slice && v.Len() > 0 && r.Intn(4) > 0:
			v = v.Index(r.Intn(v.Len()))
		default:
			fill(r, v)
			return x
		}
	}
}

// TestNothingPanics: genesis, councils, certificates, states and blocks of whatever content, and good ones of which a part is anything.
func TestNothingPanics(t *testing.T) {
	r := rand.New(rand.NewSource(124))
	w, b := bendWorld(t)
	look := func(st api.State, b api.Block) {
		t.Helper()
		_, want := modelValid(st, w.r, b)
		if e := chain.Valid(st, w.r, b); e != want {
			t.Fatalf("C6: %v behind %v: error %d, want %d", b, st, e, want)
		}
		behind, want := modelApply(st, w.r, b)
		if got, e := chain.Apply(st, w.r, b); e != want || !likeState(got, behind) {
			t.Fatalf("C7: %v behind %v: error %d, want %d", b, st, e, want)
		}
		block, want := modelMake(st, w.r, b.Txs, b.Evidence, b.Last, b.Header.Proposer)
		if got, e := chain.Make(st, w.r, b.Txs, b.Evidence, b.Last, b.Header.Proposer); e != want || !likeBlock(got, block) {
			t.Fatalf("C5: %v behind %v: error %d, want %d", b, st, e, want)
		}
	}
	for range 3000 {
		chain.Begin(anything[api.Genesis](r))
		chain.Begin(spoilt(r, genesis()))
		c, x := anything[api.Council](r), anything[api.Cert](r)
		chain.Median(c, x)
		chain.Median(w.ahead(), x)
		if e, want := chain.CheckCert(c, w.r, name, x), modelCheck(c, w.r, name, x); e != want {
			t.Fatalf("C3: error %d, want %d", e, want)
		}
		x = spoilt(r, copyBlock(b).Last)
		chain.Median(w.ahead(), x)
		if e, want := chain.CheckCert(w.ahead(), w.r, name, x), modelCheck(w.ahead(), w.r, name, x); e != want {
			t.Fatalf("C3: error %d, want %d", e, want)
		}
		look(anything[api.State](r), anything[api.Block](r))
		look(w.st, anything[api.Block](r))
		look(anything[api.State](r), b)
		look(spoilt(r, copyState(w.st)), b)
		look(w.st, spoilt(r, copyBlock(b)))
		look(spoilt(r, copyState(w.st)), w.bound(spoilt(r, copyBlock(b))))
		look(w.st, w.bound(spoilt(r, copyBlock(b))))
	}
}

// roomy is the same value, each list of it with room behind, in which something stands.
func roomy[T any](x T) T {
	v := reflect.ValueOf(&x).Elem()
	giveRoom(v)
	return x
}

func giveRoom(v reflect.Value) {
	switch v.Kind() {
	case reflect.Struct:
		for k := range v.NumField() {
			giveRoom(v.Field(k))
		}
	case reflect.Slice:
		n := v.Len()
		more := reflect.MakeSlice(v.Type(), n+3, n+3)
		reflect.Copy(more, v)
		r := rand.New(rand.NewSource(int64(n)))
		for k := range n + 3 {
			if k < n {
				giveRoom(more.Index(k))
			} else {
				fill(r, more.Index(k))
			}
		}
		v.Set(more.Slice(0, n))
	}
}

// whole is a copy of a value with all that lies in the room behind its lists.
func whole[T any](x T) T {
	v := reflect.ValueOf(&x).Elem()
	takeWhole(v)
	return x
}

func takeWhole(v reflect.Value) {
	switch v.Kind() {
	case reflect.Struct:
		for k := range v.NumField() {
			takeWhole(v.Field(k))
		}
	case reflect.Slice:
		c := reflect.MakeSlice(v.Type(), v.Cap(), v.Cap())
		reflect.Copy(c, v.Slice(0, v.Cap()))
		for k := range c.Len() {
			takeWhole(c.Index(k))
		}
		v.Set(c)
	}
}

// spoil writes over all lists of a value, and over the room behind them.
func spoil(x any) { spoilLists(reflect.ValueOf(x), rand.New(rand.NewSource(1))) }

func spoilLists(v reflect.Value, r *rand.Rand) {
	switch v.Kind() {
	case reflect.Struct:
		for k := range v.NumField() {
			spoilLists(v.Field(k), r)
		}
	case reflect.Slice:
		v = v.Slice(0, v.Cap())
		for k := range v.Len() {
			spoilLists(v.Index(k), r)
			fill(r, v.Index(k))
		}
	}
}

// stretch is where a list lies, with the room behind it.
type stretch struct{ from, to uintptr }

func stretches(v reflect.Value) (all []stretch) {
	switch v.Kind() {
	case reflect.Struct:
		for k := range v.NumField() {
			all = append(all, stretches(v.Field(k))...)
		}
	case reflect.Slice:
		if v.Cap() == 0 {
			return nil
		}
		v = v.Slice(0, v.Cap())
		all = append(all, stretch{v.Pointer(), v.Pointer() + uintptr(v.Cap())*v.Type().Elem().Size()})
		for k := range v.Len() {
			all = append(all, stretches(v.Index(k))...)
		}
	}
	return all
}

// wantApart: no two lists of these values lie in one place.
func wantApart(t *testing.T, what string, values ...any) {
	t.Helper()
	var all []stretch
	for _, x := range values {
		all = append(all, stretches(reflect.ValueOf(x))...)
	}
	for k, x := range all {
		for _, y := range all[:k] {
			if x.from < y.to && y.from < x.to {
				t.Fatalf("G3: %s: two lists share memory", what)
			}
		}
	}
}

// TestHandedIn: no call changes what it is handed, or the room behind it, or answers it.
func TestHandedIn(t *testing.T) {
	r := rand.New(rand.NewSource(125))
	for range 8 {
		g := roomy(someGenesis(r))
		wasGenesis := whole(g)
		st, e := chain.Begin(g)
		if e != api.OK || !reflect.DeepEqual(whole(g), wasGenesis) {
			t.Fatalf("G3: Begin has changed what it was handed, error %d", e)
		}
		wantApart(t, "Begin", g, st)
		w := newWorld(t, someGenesis(r))
		for range 12 {
			w.handOver(r)
		}
	}
}

// handOver makes and applies a block, all lists of which have room behind them.
func (w *world) handOver(r *rand.Rand) {
	t := w.t
	t.Helper()
	st := roomy(copyState(w.st))
	txs, evidence := w.someLists(r)
	txs, evidence = roomy(txs), roomy(evidence)
	last := roomy(w.cert(w.st.Time + 1))
	handed := []any{whole(st), whole(txs), whole(evidence), whole(last)}
	b, e := chain.Make(st, w.r, txs, evidence, last, st.Council.Members[0].Addr)
	if e != api.OK {
		t.Fatalf("C5: error %d", e)
	}
	if !reflect.DeepEqual(handed, []any{whole(st), whole(txs), whole(evidence), whole(last)}) {
		t.Fatalf("G3: Make has changed what it was handed")
	}
	wantApart(t, "Make", st, txs, evidence, last, b)
	kept := whole(b)
	for _, x := range []any{txs, evidence, last} {
		spoil(x)
	}
	if !reflect.DeepEqual(whole(b), kept) {
		t.Fatalf("G3: Make has handed out what it was handed")
	}
	b = roomy(b)
	kept = whole(b)
	if e := chain.Valid(st, w.r, b); e != api.OK {
		t.Fatalf("P12.1: error %d", e)
	}
	if st.Height > 0 {
		c := st.Past[len(st.Past)-1].Council
		time, e := chain.Median(c, b.Last)
		if refusal := chain.CheckCert(c, w.r, name, b.Last); refusal != api.OK || e != api.OK || time != b.Header.Time {
			t.Fatalf("C2, C3: errors %d, %d", e, refusal)
		}
	}
	next, e := chain.Apply(st, w.r, b)
	if e != api.OK || !reflect.DeepEqual(whole(b), kept) || !reflect.DeepEqual(whole(st), handed[0]) {
		t.Fatalf("G3: a call has changed what it was handed, error %d", e)
	}
	again, _ := chain.Apply(st, w.r, b)
	wantApart(t, "Apply", st, b, next, again)
	was := whole(next)
	spoil(st)
	spoil(b)
	spoil(again)
	if !reflect.DeepEqual(whole(next), was) {
		t.Fatalf("G3: Apply has handed out what it was handed")
	}
	w.st = next
}

// TestAgainTheSame: the same calls answer the same, however goroutines run, also at one time.
func TestAgainTheSame(t *testing.T) {
	w, b := bendWorld(t)
	wrong := copyBlock(b)
	wrong.Last.Marks[0].Seal[0]++
	wrong.Last.Marks[3].Seal[0]++
	wrong = w.bound(wrong)
	want, _ := chain.Apply(w.st, w.r, b)
	var all sync.WaitGroup
	for range 16 {
		all.Add(1)
		go func() {
			defer all.Done()
			for range 20 {
				if e := chain.Valid(w.st, w.r, wrong); e != api.ErrSeal {
					t.Errorf("G4: error %d", e)
				}
				if st, e := chain.Apply(w.st, w.r, b); e != api.OK || !reflect.DeepEqual(st, want) {
					t.Errorf("G4: another state, error %d", e)
				}
				if c, e := chain.Make(w.st, w.r, b.Txs, b.Evidence, b.Last, 1); e != api.OK || !likeBlock(c, b) {
					t.Errorf("G4: another block, error %d", e)
				}
			}
		}()
	}
	all.Wait()
}

// TestGoroutinesEnd: none is left behind a call, whether a seal was wrong or not.
func TestGoroutinesEnd(t *testing.T) {
	c := councilOf(slices.Repeat([]uint64{1}, 64)...)
	w, x := certWorld(t, c)
	before := runtime.NumGoroutine()
	for range 50 {
		w.check("all", c, name, x, api.OK)
		x.Marks[5].Seal[0]++
		w.check("a wrong seal", c, name, x, api.ErrSeal)
		x.Marks[5].Seal[0]--
	}
	for range 100 { // what has told its end may need a moment to go
		if runtime.NumGoroutine() <= before {
			return
		}
		time.Sleep(time.Millisecond)
	}
	t.Errorf("G4: %d goroutines, %d before", runtime.NumGoroutine(), before)
}

// TestEmptyLists: nil lists and empty ones mean the same.
func TestEmptyLists(t *testing.T) {
	w := examples(t, 3)
	last := w.cert(w.st.Time + 1)
	want, _ := chain.Make(w.st, w.r, nil, nil, last, 1)
	got, e := chain.Make(w.st, w.r, []api.Tx{}, []api.Evidence{}, last, 1)
	if e != api.OK || !likeBlock(got, want) {
		t.Errorf("G1: %v, error %d, want %v", got, e, want)
	}
	got.Txs, got.Evidence = []api.Tx{}, []api.Evidence{}
	w.valid("empty lists", got, api.OK)
	first, _ := chain.Apply(w.st, w.r, want)
	w.st.Punished, w.st.Ledger.Releases = []api.Offence{}, []api.Release{}
	second, e := chain.Apply(w.st, w.r, got)
	if e != api.OK || !likeState(first, second) {
		t.Errorf("G1: %v, error %d, want %v", second, e, first)
	}
}
