package engine_test

import (
	"math"
	"math/rand"
	"reflect"
	"testing"

	"assent/api"
	"assent/engine"
)

// copyOf is what an object holds in another place: no New made that.
func copyOf[T any](was *T) *T {
	c := reflect.New(reflect.TypeFor[T]())
	c.Elem().Set(reflect.ValueOf(was).Elem())
	return c.Interface().(*T)
}

// TestNotMade: an engine that New did not make answers ErrNil, ahead of all else, and nothing.
func TestNotMade(t *testing.T) {
	w := lockedOn(t)
	done := finished(t)
	view, held := w.e.View(), w.e.Held()
	for what, e := range map[string]*engine.Engine{"nil": nil, "zero": {}, "a copy": copyOf(w.e), "a copy of one that has decided": copyOf(done.e)} {
		for _, in := range []api.Input{start(), {}, {Kind: 99, Now: math.MaxUint64}, prevoted(1, none, 1), over(1, 1), proposed(1, -1, x)} {
			if dos, refusal := e.Take(in); dos != nil || refusal != api.ErrNil {
				t.Errorf("G1: %s: Take: %v, error %d", what, dos, refusal)
			}
		}
		if e.View() != (api.View{}) || e.Held() != nil {
			t.Errorf("G1: %s: %+v, %v", what, e.View(), e.Held())
		}
		if b, c, refusal := e.Decided(); refusal != api.ErrNil || !reflect.DeepEqual(b, api.Block{}) || !reflect.DeepEqual(c, api.Cert{}) {
			t.Errorf("G1: %s: Decided: %v, %v, error %d", what, b, c, refusal)
		}
	}
	if w.e.View() != view || !reflect.DeepEqual(w.e.Held(), held) {
		t.Errorf("G1: a copy's calls have changed something")
	}
}

// edges are numbers at which something might wrap.
var edges = []uint64{0, 1, 2, 3, 4, 5, 6, 10, 64, api.MaxRound, api.MaxRound + 1, api.MaxTicks, api.MaxTicks + 1, api.MaxHeight, api.MaxHeight + 1, api.MaxTime, api.MaxTime + 1, api.MaxSupply, math.MaxInt64, math.MaxInt64 + 1, math.MaxUint64 - 1, math.MaxUint64}

// fill lays any numbers into all that a value has, and lists of a few elements.
func fill(r *rand.Rand, v reflect.Value) {
	switch v.Kind() {
	case reflect.Struct:
		for k := range v.NumField() {
			fill(r, v.Field(k))
		}
	case reflect.Array:
		v.Index(r.Intn(v.Len())).SetUint(uint64(r.Intn(3)))
	case reflect.Slice:
		v.Set(reflect.MakeSlice(v.Type(), r.Intn(4), 4))
		for k := range v.Len() {
			fill(r, v.Index(k))
		}
	case reflect.Uint64:
		v.SetUint(edges[r.Intn(len(edges))])
	case reflect.Int, reflect.Int64:
		v.SetInt(int64(edges[r.Intn(len(edges))]))
	case reflect.String:
		v.SetString([]string{"", "c", "seventeen letters"}[r.Intn(3)])
	case reflect.Bool:
		v.SetBool(r.Intn(2) == 0)
	default:
		panic(v.Kind())
	}
}

func anything[T any](r *rand.Rand) (x T) {
	fill(r, reflect.ValueOf(&x).Elem())
	return x
}

// spoilt is a value of which one part holds something else.
func spoilt[T any](r *rand.Rand, x T) T {
	x = whole(x)
	v := reflect.ValueOf(&x).Elem()
	for {
		switch {
		case v.Kind() == reflect.Struct:
			v = v.Field(r.Intn(v.NumField()))
		case v.Kind() == reflect.Slice && v.Len() > 0 && r.Intn(4) > 0:
			v = v.Index(r.Intn(v.Len()))
		default:
			fill(r, v)
			return x
		}
	}
}

// TestWhateverContent: councils, params and inputs of whatever content.
func TestWhateverContent(t *testing.T) {
	r := rand.New(rand.NewSource(14))
	taken, refused, engines := 0, 0, 0
	for range 3000 {
		c, p := councilOf(1, 1, 1, 1), ticks
		if r.Intn(3) == 0 {
			c = spoilt(r, c)
		}
		if r.Intn(3) == 0 {
			p = spoilt(r, p)
		}
		height := uint64(1)
		if r.Intn(4) == 0 {
			height = edges[r.Intn(len(edges))]
		}
		e, refusal := engine.New(height, c, p, api.Addr(edges[r.Intn(len(edges))]))
		if (e == nil) != (refusal != api.OK) || refusal != api.OK && refusal != api.ErrArg {
			t.Fatalf("E1: error %d", refusal)
		}
		if e == nil {
			continue
		}
		engines++
		for range 30 {
			in := anything[api.Input](r)
			switch r.Intn(8) {
			case 0:
				in = start()
			case 1:
				in = spoilt(r, proposed(r.Intn(4), -1, x))
			case 2:
				in = spoilt(r, shown(r.Intn(3), x, 1, 2, 3))
			case 3:
				in = spoilt(r, prevoted(r.Intn(9), idOf(x), api.Addr(1+r.Intn(4))))
			case 4:
				in = spoilt(r, precommitted(r.Intn(9), idOf(x), api.Addr(1+r.Intn(4))))
			case 5:
				in = spoilt(r, over(1+r.Intn(3), e.View().Round))
			case 6:
				in = spoilt(r, built(e.View().Round, x))
			}
			dos, refusal := e.Take(in)
			switch {
			case refusal == api.OK:
				taken++
			case dos == nil && (refusal == api.ErrInput || refusal == api.ErrState):
				refused++
			default:
				t.Fatalf("G1: %v, error %d", dos, refusal)
			}
			e.View()
			e.Held()
			e.Decided()
		}
	}
	if taken < 1000 || refused < 1000 || engines < 500 {
		t.Errorf("%d taken, %d refused, %d engines", taken, refused, engines)
	}
}

// roomy is the same value, each list of it with room behind, in which something stands.
func roomy[T any](x T) T {
	giveRoom(reflect.ValueOf(&x).Elem())
	return x
}

func giveRoom(v reflect.Value) {
	switch v.Kind() {
	case reflect.Struct:
		for k := range v.NumField() {
			giveRoom(v.Field(k))
		}
	case reflect.Slice:
		n := v.Len()
		more := reflect.MakeSlice(v.Type(), n+3, n+3)
		reflect.Copy(more, v)
		r := rand.New(rand.NewSource(int64(n)))
		for k := range n + 3 {
			if k < n {
				giveRoom(more.Index(k))
			} else {
				fill(r, more.Index(k))
			}
		}
		v.Set(more.Slice(0, n))
	}
}

// whole is a copy of a value with all that lies in the room behind its lists.
func whole[T any](x T) T {
	takeWhole(reflect.ValueOf(&x).Elem())
	return x
}

func takeWhole(v reflect.Value) {
	switch v.Kind() {
	case reflect.Struct:
		for k := range v.NumField() {
			takeWhole(v.Field(k))
		}
	case reflect.Slice:
		if v.IsNil() {
			return
		}
		c := reflect.MakeSlice(v.Type(), v.Cap(), v.Cap())
		reflect.Copy(c, v.Slice(0, v.Cap()))
		for k := range c.Len() {
			takeWhole(c.Index(k))
		}
		v.Set(c.Slice(0, v.Len()))
	}
}

// wholeSame: two copies by whole are alike, with the room behind.
func wholeSame[T any](x, y T) bool {
	return reflect.DeepEqual(stretched(x), stretched(y))
}

func stretched[T any](x T) T {
	stretchLists(reflect.ValueOf(&x).Elem())
	return x
}

func stretchLists(v reflect.Value) {
	switch v.Kind() {
	case reflect.Struct:
		for k := range v.NumField() {
			stretchLists(v.Field(k))
		}
	case reflect.Slice:
		if !v.IsNil() {
			v.Set(v.Slice(0, v.Cap()))
		}
	}
}

// spoil writes over all lists of a value, and over the room behind them.
func spoil(x any) { spoilLists(reflect.ValueOf(x), rand.New(rand.NewSource(1))) }

func spoilLists(v reflect.Value, r *rand.Rand) {
	switch v.Kind() {
	case reflect.Struct:
		for k := range v.NumField() {
			spoilLists(v.Field(k), r)
		}
	case reflect.Slice:
		v = v.Slice(0, v.Cap())
		for k := range v.Len() {
			spoilLists(v.Index(k), r)
			fill(r, v.Index(k))
		}
	}
}

// stretch is where a list lies, with the room behind it.
type stretch struct{ from, to uintptr }

func stretches(v reflect.Value) (all []stretch) {
	switch v.Kind() {
	case reflect.Struct:
		for k := range v.NumField() {
			all = append(all, stretches(v.Field(k))...)
		}
	case reflect.Slice:
		if v.Cap() == 0 {
			return nil
		}
		v = v.Slice(0, v.Cap())
		all = append(all, stretch{v.Pointer(), v.Pointer() + uintptr(v.Cap())*v.Type().Elem().Size()})
		for k := range v.Len() {
			all = append(all, stretches(v.Index(k))...)
		}
	}
	return all
}

// wantApart: no two lists of these values lie in one place.
func wantApart(t *testing.T, what string, values ...any) {
	t.Helper()
	var all []stretch
	for _, x := range values {
		all = append(all, stretches(reflect.ValueOf(x))...)
	}
	for k, x := range all {
		for _, y := range all[:k] {
			if x.from < y.to && y.from < x.to {
				t.Fatalf("G3: %s: two lists share memory", what)
			}
		}
	}
}

// life is a row of inputs by which 1 builds, proposes, locks, proposes again, and decides.
func life() []api.Input {
	list := []api.Input{
		start(), built(0, x), proposed(0, -1, x), prevoted(0, idOf(x), 1), prevoted(0, idOf(x), 2), prevoted(0, idOf(x), 3),
		prevoted(0, idOf(y), 2), over(api.StepPrecommit, 0), proposed(1, 0, x), over(api.StepPrecommit, 1), over(api.StepPrecommit, 2),
		shown(3, x, 1, 2, 3), over(api.StepPrecommit, 3), proposed(4, 3, x), shown(4, x, 2, 3, 4), proposed(6, -1, y),
		precommitted(4, idOf(x), 1), precommitted(4, idOf(x), 2), precommitted(4, idOf(x), 3),
	}
	return list
}

// TestHandedIn: what is handed in is not changed, nor the room behind it, and not kept; each answer is new memory.
func TestHandedIn(t *testing.T) {
	four := councilOf(1, 1, 1, 1)
	plain, _ := engine.New(1, four, ticks, 1)
	c := roomy(four)
	before := whole(c)
	e, _ := engine.New(1, c, ticks, 1)
	if !wholeSame(before, whole(c)) {
		t.Fatalf("G3: New has changed the council")
	}
	spoil(c)
	answers := []any{c}
	seen := map[int]bool{}
	for k, in := range life() {
		want, wantBad := plain.Take(whole(in))
		in = roomy(in)
		was := whole(in)
		dos, bad := e.Take(in)
		if !wholeSame(was, whole(in)) {
			t.Fatalf("G3: input %d was changed", k)
		}
		if bad != wantBad || bad != api.OK || !sameDos(dos, want) {
			t.Fatalf("G3: input %d: error %d%s\nwant error %d%s", k, bad, tell(dos), wantBad, tell(want))
		}
		for _, d := range dos {
			seen[d.Kind] = true
		}
		held := e.Held()
		if heldWant := plain.Held(); len(held)+len(heldWant) > 0 && !reflect.DeepEqual(held, heldWant) {
			t.Fatalf("G3: input %d: held %+v, want %+v", k, held, heldWant)
		}
		b, d, _ := e.Decided()
		again, _, _ := e.Decided()
		answers = append(answers, in, dos, held, e.Held(), b, d, again)
		wantApart(t, "handed in and out", answers...)
		for _, a := range answers {
			spoil(a)
		}
	}
	b, d, bad := e.Decided()
	want, cert, _ := plain.Decided()
	if bad != api.OK || !reflect.DeepEqual(b, want) || !reflect.DeepEqual(d, cert) || !reflect.DeepEqual(b, x) {
		t.Errorf("G3: %v, %v, error %d", b, d, bad)
	}
	for kind := api.DoBuild; kind <= api.DoEvidence; kind++ {
		if !seen[kind] {
			t.Errorf("kind %d was never asked for", kind)
		}
	}
}

// TestOneAnswer: a block that is proposed and decided in one Take is told twice, in memory of its own each.
func TestOneAnswer(t *testing.T) {
	w := begun(t, 1)
	w.all("R1", precommitted(0, idOf(x), 2), precommitted(0, idOf(x), 3))
	w.take("R8", precommitted(0, idOf(x), 4), doWait(api.StepPrecommit, 0, 4))
	in := built(0, roomy(x))
	dos, _ := w.e.Take(in)
	if len(dos) != 2 || dos[0].Kind != api.DoPropose || dos[1].Kind != api.DoDecide {
		t.Fatalf("R1:%s", tell(dos))
	}
	b, c, _ := w.e.Decided()
	wantApart(t, "two of one answer", in, dos, b, c)
	for _, a := range []any{in, dos, b, c} {
		spoil(a)
	}
	w.decided("G3", x, cert(0, x, 2, 3, 4))
}

// TestEmptyLists: nil lists and empty ones mean the same, and are told as nil.
func TestEmptyLists(t *testing.T) {
	bare := api.Block{Header: x.Header, Txs: []api.Tx{}, Evidence: []api.Evidence{}, Last: api.Cert{Marks: []api.Mark{}}}
	want := api.Block{Header: x.Header}
	w := begun(t, 1)
	w.take("G1", api.Input{Kind: api.InBuilt, Block: bare, Votes: []api.Vote{}}, doPropose(0, -1, want))
	in := proposed(0, -1, bare)
	in.Votes = []api.Vote{}
	w.take("G1", in, w.prevote(0, idOf(x)))
	w.holds("G1", heldProposal(0, -1, want))
	w.all("G1", precommitted(0, idOf(x), 2), precommitted(0, idOf(x), 3))
	w.take("G1", precommitted(0, idOf(x), 4), doDecide(want, cert(0, x, 2, 3, 4)))
	w.decided("G1", want, cert(0, x, 2, 3, 4))
}

// TestAgainTheSame: the same inputs bring forth the same, whichever engine takes them, and one engine has nothing in common with another.
func TestAgainTheSame(t *testing.T) {
	play := func(beside bool) (all []any) {
		e, _ := engine.New(1, councilOf(1, 1, 1, 1), ticks, 1)
		other, _ := engine.New(1, councilOf(1, 1, 1, 1), ticks, 2)
		for _, in := range life() {
			if beside {
				other.Take(in)
				other.Held()
				e.Take(api.Input{Kind: 9}) // refused ones change nothing
				e.Take(built(77, x))
			}
			dos, bad := e.Take(in)
			b, c, none := e.Decided()
			all = append(all, dos, bad, e.View(), e.Held(), b, c, none)
		}
		return all
	}
	first := play(false)
	for range 5 {
		if !reflect.DeepEqual(first, play(true)) {
			t.Fatalf("E10: not the same again")
		}
	}
}
