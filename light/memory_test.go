package light_test

import (
	"fmt"
	"math"
	"math/rand"
	"reflect"
	"runtime"
	"slices"
	"testing"

	"assent/api"
	"assent/light"
	"assent/seal"
)

// copyOf is what an object holds in another place: no New made that.
func copyOf[T any](was *T) *T {
	c := reflect.New(reflect.TypeFor[T]())
	c.Elem().Set(reflect.ValueOf(was).Elem())
	return c.Interface().(*T)
}

// TestNotMade: a client that New did not make answers ErrNil, ahead of all else, and nothing.
func TestNotMade(t *testing.T) {
	w := examples(t)
	made := w.client(1, 15)
	s := &source{world: w}
	for what, c := range map[string]*light.Client{"nil": nil, "zero": {}, "a copy": copyOf(made)} {
		for _, h := range []uint64{0, 1, 2, 9, math.MaxUint64} {
			is(t, "G1: "+what, c.Update(h, 20, s.fetch), api.ErrNil)
			is(t, "G1: "+what, c.Update(h, math.MaxUint64, nil), api.ErrNil)
			if u, e := c.Trusted(h); e != api.ErrNil || !reflect.DeepEqual(u, api.LightBlock{}) {
				t.Errorf("P16.5: %s: %v, error %d", what, u, e)
			}
		}
		if c.Latest() != 0 || c.Heights() != nil {
			t.Errorf("P16.5: %s trusts something", what)
		}
	}
	s.wantAsked("G1")
	w.wantTrusted("G1", made, 1)
	is(t, "G1: the clock of the one that was made is as it was", made.Update(3, 0, s.fetch), api.ErrAhead)
}

// TestNoRegistry: ErrNil is ahead of all else, and nobody is entered by asking.
func TestNoRegistry(t *testing.T) {
	w := examples(t)
	count := w.r.Count()
	for what, r := range map[string]*seal.Registry{"nil": nil, "zero": {}, "a copy": copyOf(w.r)} {
		for _, u := range []api.LightBlock{w.chain[2], w.chain[3], {}} {
			for _, now := range []uint64{30, math.MaxUint64} {
				for _, way := range ways {
					is(t, "G1: a registry that is "+what+": "+way.name, way.look(params, name, r, w.chain[1], u, now), api.ErrNil)
				}
				c, e := light.New(params, name, r, u, now)
				is(t, "G1: a registry that is "+what+": New", e, api.ErrNil)
				if c != nil {
					t.Errorf("G2: a client beside an error")
				}
			}
		}
	}
	s := &source{world: w}
	is(t, "G1", w.client(1, 15).Update(9, 90, s.fetch), api.OK)
	if w.r.Known(0) || w.r.Count() != count {
		t.Errorf("G3: the registry has changed")
	}
}

// edges are numbers at which something might wrap.
var edges = []uint64{0, 1, 2, 3, 4, 5, 10, 20, 30, 64, 100, api.MaxRound, api.MaxTicks, api.MaxTicks + 1, api.MaxHeight, api.MaxHeight + 1, api.MaxTime - api.MaxTicks, api.MaxTime, api.MaxTime + 1, api.MaxSupply, api.MaxSupply + 1, math.MaxInt64, math.MaxInt64 + 1, math.MaxUint64 - api.MaxTicks, math.MaxUint64 - 1, math.MaxUint64}

// fill lays any numbers into all that a value has, and lists of a few elements.
func fill(r *rand.Rand, v reflect.Value) {
	switch v.Kind() {
	case reflect.Struct:
		for k := range v.NumField() {
			fill(r, v.Field(k))
		}
	case reflect.Array:
		v.Index(r.Intn(v.Len())).SetUint(uint64(r.Intn(3)))
	case reflect.Slice:
		v.Set(reflect.MakeSlice(v.Type(), r.Intn(4), 4))
		for k := range v.Len() {
			fill(r, v.Index(k))
		}
	case reflect.Uint64:
		v.SetUint(edges[r.Intn(len(edges))])
	case reflect.Int, reflect.Int64:
		v.SetInt(int64(edges[r.Intn(len(edges))]))
	case reflect.String:
		v.SetString([]string{"", name, "seventeen letters"}[r.Intn(3)])
	default:
		panic(v.Kind())
	}
}

func anything[T any](r *rand.Rand) (x T) {
	fill(r, reflect.ValueOf(&x).Elem())
	return x
}

// bent is a light block of which some parts hold something else, its lists new.
func bent(r *rand.Rand, u api.LightBlock, parts int) api.LightBlock {
	u = roomy(u)
	for range parts {
		v := reflect.ValueOf(&u).Elem()
		for {
			if v.Kind() == reflect.Struct {
				v = v.Field(r.Intn(v.NumField()))
				continue
			}
			if v.Kind() == reflect.Slice && v.Len() > 0 && r.Intn(4) > 0 {
				v = v.Index(r.Intn(v.Len()))
				continue
			}
			fill(r, v)
			break
		}
	}
	return u
}

// TestWhatever: light blocks, parameters, names and numbers of whatever content are answered as the chapter says, by whichever call.
func TestWhatever(t *testing.T) {
	r := rand.New(rand.NewSource(161))
	w := examples(t)
	counts := map[api.Errno]int{}
	some := func() api.LightBlock {
		switch r.Intn(8) {
		case 0:
			return anything[api.LightBlock](r)
		case 1, 2:
			return w.chain[1+r.Intn(9)]
		case 3: // signed by its council, whatever the header says
			u := w.chain[1+r.Intn(9)]
			h := bent(r, u, 1+r.Intn(2)).Header
			h.Chain, h.Proposer, h.Height, h.Time = name, 1, max(1, min(h.Height, api.MaxHeight)), min(h.Time, api.MaxTime)
			return w.block(h, u.Council)
		}
		return bent(r, w.chain[1+r.Intn(9)], 1+r.Intn(2))
	}
	for range 12000 {
		s := scene{p: params, name: name, r: w.r, t: some(), u: some(), now: uint64(10 + r.Intn(120))}
		if r.Intn(4) == 0 {
			s.p = anything[api.Params](r)
		}
		if r.Intn(4) == 0 {
			s.now = edges[r.Intn(len(edges))]
		}
		if r.Intn(16) == 0 {
			s.name = anything[string](r)
		}
		for _, way := range ways {
			got, want := way.look(s.p, s.name, s.r, s.t, s.u, s.now), modelLook(way.name, s)
			if got != want {
				t.Fatalf("%s: %+v: error %d, want %d", way.name, s, got, want)
			}
			counts[got]++
		}
		c, e := light.New(s.p, s.name, s.r, s.u, s.now)
		m, want := newModel(s.p, s.name, s.r, s.u, s.now)
		if e != want || (c == nil) != (e != api.OK) {
			t.Fatalf("P16.3: %+v: error %d, want %d", s, e, want)
		}
		if c == nil {
			continue
		}
		for range 3 {
			height, now, give := uint64(1+r.Intn(12)), s.now+uint64(r.Intn(9)), some()
			if r.Intn(4) == 0 {
				height, now = edges[r.Intn(len(edges))], edges[r.Intn(len(edges))]
			}
			fetch := func(h uint64) (api.LightBlock, api.Errno) {
				if h < 10 && h%3 != 0 {
					return w.chain[h], api.OK
				}
				return give, api.OK
			}
			got, want := c.Update(height, now, fetch), m.update(height, now, fetch)
			if got != want {
				t.Fatalf("P16.4: %d: error %d, want %d", height, got, want)
			}
			counts[got]++
			wantLike(t, c, m)
		}
	}
	for _, e := range []api.Errno{api.OK, api.ErrArg, api.ErrHeight, api.ErrChain, api.ErrField, api.ErrOrder, api.ErrEmpty, api.ErrNobody, api.ErrDouble, api.ErrPower, api.ErrTotal, api.ErrSeats, api.ErrCert, api.ErrMember, api.ErrSeal, api.ErrQuorum, api.ErrOld, api.ErrTime, api.ErrAhead, api.ErrLast, api.ErrTrust} {
		if counts[e] == 0 {
			t.Errorf("error %d was never answered: %v", e, counts)
		}
	}
}

// wantLike: the client tells what the model does.
func wantLike(t *testing.T, c *light.Client, m *model) {
	t.Helper()
	var heights []uint64
	for _, want := range m.trusted {
		h := want.Header.Height
		heights = append(heights, h)
		if got, e := c.Trusted(h); e != api.OK || !reflect.DeepEqual(got, want) {
			t.Fatalf("P16.5: %d: %v, error %d, want %v", h, got, e, want)
		}
	}
	slices.Sort(heights)
	if got := c.Heights(); !slices.Equal(got, heights) || c.Latest() != heights[len(heights)-1] {
		t.Fatalf("P16.5: %v, the latest is %d, want %v", got, c.Latest(), heights)
	}
}

// roomy is the same block, its lists new, with room behind them in which something stands that would do.
func roomy(u api.LightBlock) api.LightBlock {
	u.Cert.Marks = append(slices.Clone(u.Cert.Marks), api.Mark{Index: 61}, api.Mark{Index: 62})[:len(u.Cert.Marks)]
	u.Council.Members = append(slices.Clone(u.Council.Members), api.Member{Addr: math.MaxUint64, Power: 1}, api.Member{})[:len(u.Council.Members)]
	return u
}

// within is a copy of a block with all that lies in the room behind its lists.
func within(u api.LightBlock) api.LightBlock {
	u.Cert.Marks = slices.Clone(u.Cert.Marks[:cap(u.Cert.Marks)])
	u.Council.Members = slices.Clone(u.Council.Members[:cap(u.Council.Members)])
	return u
}

// spoil writes over a list and the room behind it.
func spoil[T any](list []T, with T) {
	list = list[:cap(list)]
	for k := range list {
		list[k] = with
	}
}

func spoilBlock(u api.LightBlock) {
	spoil(u.Cert.Marks, api.Mark{Index: 3, Time: 9})
	spoil(u.Council.Members, api.Member{Addr: 7, Power: 9, Priority: 1})
}

// TestHandedIn: what is handed in, and what a fetch gives, is not changed, nor the room behind it, and not kept; it may be written over as soon as the next block is asked for.
func TestHandedIn(t *testing.T) {
	w := examples(t)
	for _, way := range ways {
		s := w.made(way.above)
		s.t, s.u = roomy(s.t), roomy(s.u)
		wasT, wasU := within(s.t), within(s.u)
		is(t, "G3: "+way.name, way.look(s.p, s.name, s.r, s.t, s.u, s.now), api.OK)
		if !reflect.DeepEqual(within(s.t), wasT) || !reflect.DeepEqual(within(s.u), wasU) {
			t.Errorf("G3: %s has changed what it was handed", way.name)
		}
	}
	first := roomy(w.chain[1])
	was := within(first)
	c, e := light.New(params, name, w.r, first, 15)
	is(t, "P16.3", e, api.OK)
	if !reflect.DeepEqual(within(first), was) {
		t.Errorf("G3: New has changed what it was handed")
	}
	spoilBlock(first)
	w.wantTrusted("G3: the first", c, 1)

	var given, copies []api.LightBlock
	check := func() {
		for k := range given {
			if !reflect.DeepEqual(within(given[k]), copies[k]) {
				t.Errorf("G3: what a fetch gave has changed")
			}
			spoilBlock(given[k])
		}
		given, copies = nil, nil
	}
	fetch := func(h uint64) (api.LightBlock, api.Errno) {
		check()
		u := roomy(w.chain[h])
		given, copies = append(given, u), append(copies, within(u))
		return u, api.OK
	}
	is(t, "G3", c.Update(9, 90, fetch), api.OK)
	check()
	w.wantTrusted("G3: what fetch gave", c, 1, 3, 4, 5, 9)

	// One and the same memory for whatever is fetched.
	var marks [3]api.Mark
	var members [3]api.Member
	d := w.client(1, 15)
	is(t, "G3", d.Update(9, 90, func(h uint64) (api.LightBlock, api.Errno) {
		u := w.chain[h]
		copy(marks[:], u.Cert.Marks)
		copy(members[:], u.Council.Members)
		u.Cert.Marks, u.Council.Members = marks[:], members[:]
		return u, api.OK
	}), api.OK)
	w.wantTrusted("G3: one memory", d, 1, 3, 4, 5, 9)
}

// TestHandedOut: each answer is new memory, its spare room too, and writing it over changes nothing.
func TestHandedOut(t *testing.T) {
	w := examples(t)
	s := &source{world: w}
	c := w.client(1, 15)
	is(t, "P16.4", c.Update(9, 90, s.fetch), api.OK)
	heights := []uint64{1, 3, 4, 5, 9}
	for range 3 {
		var lists [][]uint64
		var blocks []api.LightBlock
		for _, h := range append(heights, heights...) {
			lists = append(lists, c.Heights())
			u, _ := c.Trusted(h)
			blocks = append(blocks, u)
		}
		for k := range lists {
			if !slices.Equal(lists[k], heights) || !reflect.DeepEqual(blocks[k], w.chain[heights[k%5]]) {
				t.Fatalf("G3: an answer was changed by another")
			}
			spoil(lists[k], 77)
			spoilBlock(blocks[k])
		}
		w.wantTrusted("G3", c, heights...)
	}
	is(t, "G3: it goes on", c.Update(7, 90, s.fetch), api.OK)
	is(t, "G3: it goes on", c.Update(2, 90, s.fetch), api.OK)
	w.wantTrusted("G3", c, 1, 2, 3, 4, 5, 7, 9)
}

// TestAgainTheSame: the same calls answer the same, whatever order a map is gone through in; and clients of two News have nothing in common.
func TestAgainTheSame(t *testing.T) {
	play := func(beside bool) (all []any) {
		w := newWorld(t)
		var councils []api.Council
		for h := range api.Addr(60) {
			councils = append(councils, seats(h/3+1, h/3+2, h/3+3, h/3+4))
		}
		w.grow(councils...)
		s := &source{world: w}
		p := api.Params{Trusting: 300, Drift: 50}
		c, _ := light.New(p, name, w.r, w.chain[1], 10)
		other, _ := light.New(p, name, w.r, w.chain[1], 10)
		for k := range uint64(50) {
			if beside {
				other.Update(1+k*17%60, 12*k, s.fetch)
				s.asked = nil
			}
			all = append(all, c.Update(1+k*13%60, 10*k, s.fetch), c.Heights(), c.Latest(), s.asked)
			s.asked = nil
		}
		for h := range uint64(61) {
			u, e := c.Trusted(h)
			all = append(all, u, e)
		}
		return all
	}
	first := play(false)
	for _, beside := range []bool{false, true} {
		if !reflect.DeepEqual(play(beside), first) {
			t.Errorf("G4: the same calls answer other things")
		}
	}
	if got := fmt.Sprint(first...); len(got) < 2000 {
		t.Fatalf("G4: nothing was answered: %s", got)
	}
}

// TestFetchSees: as long as an Update is under way nothing of it is trusted yet.
func TestFetchSees(t *testing.T) {
	w := examples(t)
	s := &source{world: w}
	c := w.client(1, 15)
	is(t, "P16.4", c.Update(9, 90, func(h uint64) (api.LightBlock, api.Errno) {
		w.wantTrusted(fmt.Sprint("P16.4: while ", h, " is fetched"), c, 1)
		return s.fetch(h)
	}), api.OK)
	w.wantTrusted("P16.4", c, 1, 3, 4, 5, 9)
}

// TestUpdateWithin: a fetch may itself call Update; what comes to be trusted by that stays as it is.
func TestUpdateWithin(t *testing.T) {
	w := examples(t)
	s := &source{world: w}
	c := w.client(1, 15)
	again := w.chain[4]
	again.Cert = w.cert(again.Header, 3, again.Council, 1, 2, 3) // another certificate of the same block
	is(t, "P16.4", c.Update(9, 90, func(h uint64) (api.LightBlock, api.Errno) {
		if h == 5 {
			is(t, "P16.4: within", c.Update(4, 0, func(uint64) (api.LightBlock, api.Errno) { return again, api.OK }), api.OK)
		}
		return s.fetch(h)
	}), api.OK)
	s.wantAsked("P16.7", 9, 5, 3, 4)
	if u, e := c.Trusted(4); e != api.OK || u.Cert.Round != 3 {
		t.Errorf("P16.6: %v, error %d", u, e)
	}
	w.chain[4] = again
	w.wantTrusted("P16.4", c, 1, 3, 4, 5, 9)

	d := w.client(1, 15)
	is(t, "P16.4: the clock within is the clock", d.Update(3, 90, func(h uint64) (api.LightBlock, api.Errno) {
		d.Update(1, 110, s.fetch)
		return s.fetch(h)
	}), api.ErrOld)
	w.wantTrusted("P16.9", d, 1)
}

// TestFetchPanics: no call panics; a fetch that does gives nothing, and nothing comes to be trusted.
func TestFetchPanics(t *testing.T) {
	w := examples(t)
	s := &source{world: w}
	for _, at := range []uint64{9, 5, 3, 4} {
		for _, cause := range []any{"cause", nil, 7, error(nil)} {
			c := w.client(1, 15)
			is(t, "G1", c.Update(9, 90, func(h uint64) (api.LightBlock, api.Errno) {
				if h == at {
					panic(cause)
				}
				return s.fetch(h)
			}), api.ErrNone)
			w.wantTrusted("P16.9", c, 1)
			is(t, "P16.9", c.Update(9, 90, s.fetch), api.OK)
			w.wantTrusted("P16.9", c, 1, 3, 4, 5, 9)
		}
	}
}

// TestFetchGoesAway: where a fetch ends the goroutine that the call runs in, nothing comes to be trusted.
func TestFetchGoesAway(t *testing.T) {
	w := examples(t)
	s := &source{world: w}
	for _, at := range []uint64{9, 5, 3, 4} {
		c := w.client(1, 15)
		gone := make(chan struct{})
		go func() {
			defer close(gone)
			c.Update(9, 90, func(h uint64) (api.LightBlock, api.Errno) {
				if h == at {
					runtime.Goexit()
				}
				return s.fetch(h)
			})
			t.Errorf("the call has answered")
		}()
		<-gone
		w.wantTrusted("P16.9", c, 1)
		is(t, "P16.9", c.Update(9, 90, s.fetch), api.OK)
	}
}
