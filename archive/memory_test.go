package archive_test

import (
	"math"
	"math/rand"
	"reflect"
	"slices"
	"testing"

	"assent/api"
	"assent/archive"
	"assent/disk"
	"assent/wire"
)

// copyOf is what an object holds in another place: no New made that.
func copyOf[T any](was *T) *T {
	c := reflect.New(reflect.TypeFor[T]())
	c.Elem().Set(reflect.ValueOf(was).Elem())
	return c.Interface().(*T)
}

// TestNotMade: an archive that Open did not make answers ErrNil, ahead of all else, and nothing.
func TestNotMade(t *testing.T) {
	w := grown(t, 2)
	w.is("A8", w.a.Note(state(2, 0)), api.OK)
	b, c := block(3, 0)
	for what, a := range map[string]*archive.Archive{"nil": nil, "zero": {}, "a copy": copyOf(w.a)} {
		v := &world{t: t, d: w.d, a: a}
		v.at("G1: "+what, 0, 3)
		v.is("G1: Save: "+what, a.Save(b, c), api.ErrNil)
		v.is("G1: Save of what is not plain: "+what, a.Save(api.Block{}, c), api.ErrNil)
		v.is("G1: Note: "+what, a.Note(state(2, 1)), api.ErrNil)
		v.is("G1: Note of what has no form: "+what, a.Note(api.State{}), api.ErrNil)
		for _, h := range []uint64{0, 1, 2, 3, math.MaxUint64} {
			v.loadRefused("G1: "+what, h, api.ErrNil)
			if seq := a.From(h); seq != nil {
				for range seq {
					t.Errorf("G1: %s: From gives something", what)
				}
			}
		}
		v.noted("G1: "+what, api.State{}, api.ErrNil)
	}
	w.at("G1", 2, 3)
	w.noted("G1", state(2, 0), api.OK)
	w.arm(1, api.TrFault, false)
	w.save("A5", 3, api.ErrFault)
	dead := copyOf(w.a)
	w.is("G1: a copy of a dead one", dead.Save(b, c), api.ErrNil)
	if w.a.From(9) == nil || w.a.From(0) == nil {
		t.Errorf("A7: no iterator")
	}
}

// TestDiskWrittenOver: where the disk is none any more no call panics, and none answers OK.
func TestDiskWrittenOver(t *testing.T) {
	w := grown(t, 2)
	*w.d = disk.Disk{}
	for _, h := range []uint64{1, 2} {
		if _, _, e := w.a.Load(h); e == api.OK {
			t.Errorf("G1: Load answers OK")
		}
	}
	if _, e := w.a.Noted(); e == api.OK {
		t.Errorf("G1: Noted answers OK")
	}
	if got := heights(w.a, 1); got != nil {
		t.Errorf("G1: %v", got)
	}
	if e := w.a.Note(state(2, 0)); e == api.OK {
		t.Errorf("G1: Note answers OK")
	}
	w.save("P13.5", 3, api.ErrDead)
}

// edges are numbers at which something might wrap.
var edges = []uint64{0, 1, 2, 3, 4, 5, 10, 64, 1000, api.MaxRound, api.MaxTicks, api.MaxHeight, api.MaxHeight + 1, api.MaxTime, api.MaxTime + 1, api.MaxSupply, api.MaxSupply + 1, math.MaxInt64, math.MaxInt64 + 1, math.MaxUint64 - 1, math.MaxUint64}

// fill lays any numbers into all that a value has, and lists of a few elements.
func fill(r *rand.Rand, v reflect.Value) {
	switch v.Kind() {
	case reflect.Struct:
		for k := range v.NumField() {
			fill(r, v.Field(k))
		}
	case reflect.Array:
		v.Index(r.Intn(v.Len())).SetUint(uint64(r.Intn(3)))
	case reflect.Slice:
		v.Set(reflect.MakeSlice(v.Type(), r.Intn(4), 4))
		for k := range v.Len() {
			fill(r, v.Index(k))
		}
	case reflect.Uint64:
		v.SetUint(edges[r.Intn(len(edges))])
	case reflect.Int, reflect.Int64:
		v.SetInt(int64(edges[r.Intn(len(edges))]))
	case reflect.String:
		v.SetString([]string{"", name, "seventeen letters"}[r.Intn(3)])
	case reflect.Bool:
		v.SetBool(r.Intn(2) == 0)
	default:
		panic(v.Kind())
	}
}

func anything[T any](r *rand.Rand) (x T) {
	fill(r, reflect.ValueOf(&x).Elem())
	return x
}

// spoilt is a value of which one part holds something else.
func spoilt[T any](r *rand.Rand, x T) T {
	v := reflect.ValueOf(&x).Elem()
	for {
		switch {
		case v.Kind() == reflect.Struct:
			v = v.Field(r.Intn(v.NumField()))
		case v.Kind() == reflect.Slice && v.Len() > 0 && r.Intn(4) > 0:
			v = v.Index(r.Intn(v.Len()))
		default:
			fill(r, v)
			return x
		}
	}
}

// TestWhateverContent: blocks, certificates and states of whatever content, held against the model.
func TestWhateverContent(t *testing.T) {
	r := rand.New(rand.NewSource(132))
	w := grown(t, 3)
	other, _ := disk.New(limit)
	m := openModel(other)
	for h := range uint64(3) {
		b, c := block(h+1, 0)
		m.save(b, c)
	}
	counts := map[api.Errno]int{}
	for range 4000 {
		b, c := block(uint64(1+r.Intn(4)), 0)
		switch r.Intn(4) {
		case 0:
			b, c = anything[api.Block](r), anything[api.Cert](r)
		case 1:
			b = spoilt(r, b)
		case 2:
			c = spoilt(r, c)
		case 3:
			b.Header = spoilt(r, b.Header)
			if id, e := wire.BlockId(b.Header); e == api.OK {
				c.Id, c.Height = id, b.Header.Height
			}
		}
		st := anything[api.State](r)
		if r.Intn(2) == 0 {
			st = spoilt(r, state(m.head, 0))
		}
		e, want := w.a.Save(b, c), m.save(b, c)
		w.is("G1: Save", e, want)
		counts[e]++
		e, want = w.a.Note(st), m.note(st)
		w.is("G1: Note", e, want)
		counts[e]++
		h := edges[r.Intn(len(edges))]
		x, y, e := w.a.Load(h)
		p, q, want := m.load(h)
		w.is("G1: Load", e, want)
		if !reflect.DeepEqual(x, p) || !reflect.DeepEqual(y, q) || w.a.Head() != m.head {
			t.Fatalf("G1: height %d, head %d, want %d", h, w.a.Head(), m.head)
		}
	}
	for _, e := range []api.Errno{api.OK, api.ErrField, api.ErrKind, api.ErrOrder, api.ErrCert, api.ErrGap, api.ErrClash} {
		if counts[e] == 0 {
			t.Errorf("error %d was never answered", e)
		}
	}
}

// TestWhateverBytes: files of whatever bytes, with right digests among them, are read as the model does.
func TestWhateverBytes(t *testing.T) {
	r := rand.New(rand.NewSource(133))
	w := grown(t, 2)
	m := openModel(w.d)
	b, c := block(2, 0)
	text := form(t, decision(b, c))
	stateText := must(wire.EncodeState(state(2, 0)))
	counts := map[api.Errno]int{}
	for range 6000 {
		any := make([]byte, r.Intn(80))
		r.Read(any)
		one, two := slices.Clone(text), slices.Clone(stateText)
		for range r.Intn(3) {
			one[r.Intn(len(one))] ^= byte(r.Intn(4))
			two[r.Intn(len(two))] ^= byte(r.Intn(4))
		}
		switch r.Intn(3) {
		case 0:
			one, two = any, any
		case 1:
			one, two = append(one, any[:len(any)/2]...), two[:r.Intn(len(two))]
		}
		if r.Intn(4) > 0 {
			one, two = withSum(one), withSum(two)
		}
		w.put(blockFile(2), one)
		w.put("state", two)
		x, y, e := w.a.Load(2)
		p, q, want := m.load(2)
		if e != want || !reflect.DeepEqual(x, p) || !reflect.DeepEqual(y, q) {
			t.Fatalf("A2: %x: error %d, want %d", one, e, want)
		}
		counts[e]++
		st, e := w.a.Noted()
		wantState, want := m.noted()
		if e != want || !reflect.DeepEqual(st, wantState) {
			t.Fatalf("A9: %x: error %d, want %d", two, e, want)
		}
		counts[e]++
		w.is("A5", w.a.Save(b, c), m.save(b, c))
		w.loads("P13.6", 1)
	}
	if counts[api.OK] < 100 || counts[api.ErrSpoilt] < 100 {
		t.Errorf("%v", counts)
	}
}

// roomy is the same value, each list of it with room behind, in which something stands.
func roomy[T any](x T) T {
	giveRoom(reflect.ValueOf(&x).Elem())
	return x
}

func giveRoom(v reflect.Value) {
	switch v.Kind() {
	case reflect.Struct:
		for k := range v.NumField() {
			giveRoom(v.Field(k))
		}
	case reflect.Slice:
		n := v.Len()
		more := reflect.MakeSlice(v.Type(), n+3, n+3)
		reflect.Copy(more, v)
		r := rand.New(rand.NewSource(int64(n)))
		for k := range n + 3 {
			if k < n {
				giveRoom(more.Index(k))
			} else {
				fill(r, more.Index(k))
			}
		}
		v.Set(more.Slice(0, n))
	}
}

// whole is a copy of a value with all that lies in the room behind its lists.
func whole[T any](x T) T {
	takeWhole(reflect.ValueOf(&x).Elem())
	return x
}

func takeWhole(v reflect.Value) {
	switch v.Kind() {
	case reflect.Struct:
		for k := range v.NumField() {
			takeWhole(v.Field(k))
		}
	case reflect.Slice:
		c := reflect.MakeSlice(v.Type(), v.Cap(), v.Cap())
		reflect.Copy(c, v.Slice(0, v.Cap()))
		for k := range c.Len() {
			takeWhole(c.Index(k))
		}
		v.Set(c)
	}
}

// spoil writes over all lists of a value, and over the room behind them.
func spoil(x any) { spoilLists(reflect.ValueOf(x), rand.New(rand.NewSource(1))) }

func spoilLists(v reflect.Value, r *rand.Rand) {
	switch v.Kind() {
	case reflect.Struct:
		for k := range v.NumField() {
			spoilLists(v.Field(k), r)
		}
	case reflect.Slice:
		v = v.Slice(0, v.Cap())
		for k := range v.Len() {
			spoilLists(v.Index(k), r)
			fill(r, v.Index(k))
		}
	}
}

// stretch is where a list lies, with the room behind it.
type stretch struct{ from, to uintptr }

func stretches(v reflect.Value) (all []stretch) {
	switch v.Kind() {
	case reflect.Struct:
		for k := range v.NumField() {
			all = append(all, stretches(v.Field(k))...)
		}
	case reflect.Slice:
		if v.Cap() == 0 {
			return nil
		}
		v = v.Slice(0, v.Cap())
		all = append(all, stretch{v.Pointer(), v.Pointer() + uintptr(v.Cap())*v.Type().Elem().Size()})
		for k := range v.Len() {
			all = append(all, stretches(v.Index(k))...)
		}
	}
	return all
}

// wantApart: no two lists of these values lie in one place.
func wantApart(t *testing.T, what string, values ...any) {
	t.Helper()
	var all []stretch
	for _, x := range values {
		all = append(all, stretches(reflect.ValueOf(x))...)
	}
	for k, x := range all {
		for _, y := range all[:k] {
			if x.from < y.to && y.from < x.to {
				t.Fatalf("G3: %s: two lists share memory", what)
			}
		}
	}
}

// TestHandedIn: what is handed in is not changed, nor the room behind it, and not kept.
func TestHandedIn(t *testing.T) {
	w := newWorld(t)
	for h := uint64(1); h <= 3; h++ {
		b, c := block(h, 0)
		b, c = roomy(b), roomy(c)
		st := roomy(state(h, h))
		was := []any{whole(b), whole(c), whole(st)}
		for range 2 { // the second Save finds it there
			w.is("A5", w.a.Save(b, c), api.OK)
			w.is("A8", w.a.Note(st), api.OK)
		}
		if !reflect.DeepEqual(was, []any{whole(b), whole(c), whole(st)}) {
			t.Fatalf("G3: what was handed in has changed")
		}
		x, y, _ := w.a.Load(h)
		z, _ := w.a.Noted()
		wantApart(t, "handed in and out", b, c, st, x, y, z)
		spoil(b)
		spoil(c)
		spoil(st)
		w.loads("G3", h)
		w.noted("G3", state(h, h), api.OK)
	}
}

// TestHandedOut: each answer is new memory, also what From gives.
func TestHandedOut(t *testing.T) {
	w := grown(t, 3)
	w.is("A8", w.a.Note(state(3, 0)), api.OK)
	seq := w.a.From(1)
	var all []any
	for range 2 {
		for b, c := range seq {
			all = append(all, b, c)
		}
		for h := uint64(1); h <= 3; h++ {
			b, c, _ := w.a.Load(h)
			all = append(all, b, c)
		}
		st, _ := w.a.Noted()
		all = append(all, st)
	}
	wantApart(t, "answers", all...)
	for _, x := range all {
		spoil(x)
	}
	for b, c := range seq { // written over within the loop, too
		x, y := block(b.Header.Height, 0)
		if !reflect.DeepEqual(b, x) || !reflect.DeepEqual(c, y) {
			t.Fatalf("P13.7: %v, %v", b, c)
		}
		spoil(b)
		spoil(c)
	}
	if len(heights(w.a, 1)) != 3 {
		t.Errorf("P13.7: not all are given any more")
	}
	for h := uint64(1); h <= 3; h++ {
		w.loads("P13.7", h)
	}
	w.noted("P13.7", state(3, 0), api.OK)
}

// TestEmptyLists: nil lists and empty ones mean the same, and come back as nil.
func TestEmptyLists(t *testing.T) {
	w := newWorld(t)
	b := api.Block{Header: api.Header{Chain: name, Height: 1, Proposer: 1}, Txs: []api.Tx{}, Evidence: []api.Evidence{}, Last: api.Cert{Marks: []api.Mark{}}}
	c := certOf(b, 0)
	c.Marks = []api.Mark{}
	w.is("G1", w.a.Save(b, c), api.OK)
	b.Txs, b.Evidence, b.Last.Marks, c.Marks = nil, nil, nil, nil
	w.is("G1", w.a.Save(b, c), api.OK)
	w.loadsThat("G1", b, c)
	st := api.State{Chain: name, Params: api.Params{Seats: 1}, Height: 1}
	want := st
	st.Council.Members, st.Past, st.Punished, st.Ledger.Accounts = []api.Member{}, []api.Past{}, []api.Offence{}, []api.Account{}
	w.is("G1", w.a.Note(st), api.OK)
	w.noted("G1", want, api.OK)
}

// TestAgainTheSame: the same calls on another disk answer the same and leave the same files.
func TestAgainTheSame(t *testing.T) {
	play := func() (all []any) {
		w := grown(t, 3)
		all = append(all, w.a.Note(state(3, 0)))
		b, c := block(2, 1)
		all = append(all, w.a.Save(b, c))
		w.arm(2, api.TrPower, true)
		for h := uint64(4); h < 8; h++ {
			b, c := block(h, 0)
			all = append(all, w.a.Save(b, c), w.a.Head())
		}
		im, _ := w.d.Crash(nil, 0)
		return append(all, im)
	}
	if first, second := play(), play(); !reflect.DeepEqual(first, second) {
		t.Errorf("G4: %v, %v", first, second)
	}
}
