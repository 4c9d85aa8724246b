package cluster_test

import (
	"math"
	"math/rand"
	"reflect"
	"runtime"
	"slices"
	"testing"

	"assent/api"
	"assent/chain"
	"assent/cluster"
)

// copyOf is what an object holds in another place: no New made that.
func copyOf[T any](was *T) *T {
	c := reflect.New(reflect.TypeFor[T]())
	c.Elem().Set(reflect.ValueOf(was).Elem())
	return c.Interface().(*T)
}

// TestNotMade: a cluster that New did not make answers ErrNil, ahead of all else, and nothing.
func TestNotMade(t *testing.T) {
	w := begin(t, four(), 1)
	w.rounds(20)
	was := tellAll(w.c, 1)
	for what, c := range map[string]*cluster.Cluster{"nil": nil, "zero": {}, "a copy": copyOf(w.c)} {
		for _, k := range places {
			for _, e := range []api.Errno{c.Deliver(k, true), c.Deliver(k, false), c.Drop(k), c.Tick(k, 1), c.Arm(k, api.Trouble{}), c.Arm(k, api.Trouble{At: 1, Kind: api.TrPower}), c.Restart(k, nil, 0), c.Submit(k, api.Tx{}), c.Submit(k, pays(1, 0)), c.Lie(k, k, api.Msg{}), c.Lie(3, -1, status(1)), c.Rounds(k)} {
				is(t, "G1: "+what, e, api.ErrNil)
			}
			from, to, b, e1 := c.Peek(k)
			st, e2 := c.State(k)
			v, e3 := c.View(k)
			now, e4 := c.Clock(k)
			txs, e5 := c.Pool(k)
			for _, e := range []api.Errno{e1, e2, e3, e4, e5} {
				is(t, "G1: "+what, e, api.ErrNil)
			}
			if from != 0 || to != 0 || b != nil || !reflect.DeepEqual(st, api.State{}) || v != (api.View{}) || now != 0 || txs != nil || c.Dead(k) {
				t.Errorf("G1: %s tells something", what)
			}
			for _, h := range []uint64{0, 1, math.MaxUint64} {
				b, x, e1 := c.Block(k, h)
				votes, e2 := c.Heard(k, h)
				l, e3 := c.Light(k, h)
				for _, e := range []api.Errno{e1, e2, e3} {
					is(t, "G1: "+what, e, api.ErrNil)
				}
				if !reflect.DeepEqual(b, api.Block{}) || !reflect.DeepEqual(x, api.Cert{}) || votes != nil || !reflect.DeepEqual(l, api.LightBlock{}) {
					t.Errorf("G2: %s: something beside an error", what)
				}
			}
		}
		guilts, e := c.Blame()
		is(t, "G1: "+what, e, api.ErrNil)
		if n, honest := c.Nodes(); n != 0 || honest != 0 || c.Pending() != 0 || c.Registry() != nil || c.Signed(1) != nil || guilts != nil {
			t.Errorf("G1: %s tells something", what)
		}
	}
	if !reflect.DeepEqual(tellAll(w.c, 1), was) {
		t.Errorf("G1: the one that was made has changed")
	}
}

// TestNoBook: where the registry that was handed out is written over no call panics, and nothing is signed.
func TestNoBook(t *testing.T) {
	w := begin(t, four(), 1)
	w.rounds(20)
	r := w.c.Registry()
	reflect.ValueOf(r).Elem().SetZero()
	w.is("C6", w.c.Submit(0, pays(1, 0)), api.ErrNil)
	w.is("C6", w.c.Submit(0, pays(9, 0)), api.ErrNil)
	w.is("C7", w.c.Lie(3, 0, voted(api.Vote{Kind: api.Prevote, Height: 1, From: 4})), api.ErrNil)
	w.is("C7", w.c.Lie(3, 0, status(1)), api.OK)
	w.rounds(20)
	w.is("C5: Open's answer", w.c.Restart(1, nil, 0), api.ErrNil)
	tellAll(w.c, 1)
	if w.c.Signed(1) != nil || w.c.Registry() != r || !w.c.Dead(1) || w.c.Dead(0) {
		t.Errorf("C9: something is signed")
	}
}

// fill lays any numbers into all that a value has, and lists of a few elements.
func fill(r *rand.Rand, v reflect.Value) {
	switch v.Kind() {
	case reflect.Struct:
		for k := range v.NumField() {
			fill(r, v.Field(k))
		}
	case reflect.Array:
		v.Index(r.Intn(v.Len())).SetUint(uint64(r.Intn(3)))
	case reflect.Slice:
		v.Set(reflect.MakeSlice(v.Type(), r.Intn(4), 4))
		for k := range v.Len() {
			fill(r, v.Index(k))
		}
	case reflect.Uint64, reflect.Uint8:
		v.SetUint(edges[r.Intn(len(edges))])
	case reflect.Int, reflect.Int64:
		v.SetInt(int64(edges[r.Intn(len(edges))]))
	case reflect.String:
		v.SetString([]string{"", name, "seventeen letters"}[r.Intn(3)])
	case reflect.Bool:
		v.SetBool(r.Intn(2) == 0)
	default:
		panic(v.Kind())
	}
}

// bent is a value of which some parts hold something else, its lists new.
func bent[T any](r *rand.Rand, x T, parts int) T {
	x = roomy(x)
	for range parts {
		v := reflect.ValueOf(&x).Elem()
		for {
			if v.Kind() == reflect.Struct {
				v = v.Field(r.Intn(v.NumField()))
				continue
			}
			if v.Kind() == reflect.Slice && v.Len() > 0 && r.Intn(4) > 0 {
				v = v.Index(r.Intn(v.Len()))
				continue
			}
			fill(r, v)
			break
		}
	}
	return x
}

// roomy is the same value, each list of it new, with room behind in which something stands.
func roomy[T any](x T) T {
	giveRoom(reflect.ValueOf(&x).Elem())
	return x
}

func giveRoom(v reflect.Value) {
	switch v.Kind() {
	case reflect.Struct:
		for k := range v.NumField() {
			giveRoom(v.Field(k))
		}
	case reflect.Slice:
		n := v.Len()
		more := reflect.MakeSlice(v.Type(), n+3, n+3)
		reflect.Copy(more, v)
		r := rand.New(rand.NewSource(int64(n)))
		for k := range n + 3 {
			if k < n {
				giveRoom(more.Index(k))
			} else {
				fill(r, more.Index(k))
			}
		}
		v.Set(more.Slice(0, n))
	}
}

// whole is a copy of a value with all that lies in the room behind its lists.
func whole[T any](x T) T {
	takeWhole(reflect.ValueOf(&x).Elem())
	return x
}

func takeWhole(v reflect.Value) {
	switch v.Kind() {
	case reflect.Struct:
		for k := range v.NumField() {
			takeWhole(v.Field(k))
		}
	case reflect.Slice:
		c := reflect.MakeSlice(v.Type(), v.Cap(), v.Cap())
		reflect.Copy(c, v.Slice(0, v.Cap()))
		for k := range c.Len() {
			takeWhole(c.Index(k))
		}
		v.Set(c)
	}
}

// spoil writes over all lists of a value, and over the room behind them.
func spoil(x any) { spoilLists(reflect.ValueOf(x), rand.New(rand.NewSource(1))) }

func spoilLists(v reflect.Value, r *rand.Rand) {
	switch v.Kind() {
	case reflect.Struct:
		for k := range v.NumField() {
			spoilLists(v.Field(k), r)
		}
	case reflect.Slice:
		v = v.Slice(0, v.Cap())
		for k := range v.Len() {
			spoilLists(v.Index(k), r)
			fill(r, v.Index(k))
		}
	}
}

// stretch is where a list lies, with the room behind it.
type stretch struct{ from, to uintptr }

func stretches(v reflect.Value) (all []stretch) {
	switch v.Kind() {
	case reflect.Struct:
		for k := range v.NumField() {
			all = append(all, stretches(v.Field(k))...)
		}
	case reflect.Slice:
		if v.Cap() == 0 {
			return nil
		}
		v = v.Slice(0, v.Cap())
		all = append(all, stretch{v.Pointer(), v.Pointer() + uintptr(v.Cap())*v.Type().Elem().Size()})
		for k := range v.Len() {
			all = append(all, stretches(v.Index(k))...)
		}
	}
	return all
}

// wantApart: no two lists of these values lie in one place.
func wantApart(t *testing.T, values ...any) {
	t.Helper()
	var all []stretch
	for _, x := range values {
		all = append(all, stretches(reflect.ValueOf(x))...)
	}
	slices.SortFunc(all, func(x, y stretch) int {
		if x.from < y.from {
			return -1
		}
		return 1
	})
	for k := 1; k < len(all); k++ {
		if all[k].from < all[k-1].to {
			t.Fatalf("G3: two lists share memory")
		}
	}
	runtime.KeepAlive(values)
}

// TestWhateverBeginning: New takes just what the chapter says, and plays it whatever it is.
func TestWhateverBeginning(t *testing.T) {
	r := rand.New(rand.NewSource(181))
	counts := map[api.Errno]int{}
	for range 1500 {
		g := four()
		if r.Intn(3) > 0 {
			g = bent(r, g, 1+r.Intn(2))
		}
		addrs, liars := upTo(r.Intn(5)), r.Intn(4)
		if r.Intn(4) == 0 && len(addrs) > 0 {
			addrs[r.Intn(len(addrs))] = []api.Addr{0, 1, 2, 5, math.MaxUint64}[r.Intn(5)]
		}
		if r.Intn(8) == 0 {
			liars = places[r.Intn(len(places))]
		}
		c, e := cluster.New(g, addrs, liars)
		m, want := newModel(g, addrs, liars)
		if counts[e]++; e != want || (c == nil) != (m == nil) {
			t.Fatalf("C1: error %d, want %d", e, want)
		}
		if c == nil {
			continue
		}
		for range 5 {
			by := edges[r.Intn(len(edges))]
			is(t, "C4", c.Tick(0, by), m.tick(0, by))
			is(t, "C8", c.Rounds(2), m.rounds(2))
			if c.Pending() != len(m.parcels) {
				t.Fatalf("C2: %d are under way, want %d", c.Pending(), len(m.parcels))
			}
		}
	}
	for _, e := range []api.Errno{api.OK, api.ErrArg, api.ErrNobody, api.ErrSum} {
		if counts[e] == 0 {
			t.Errorf("error %d was never answered: %v", e, counts)
		}
	}
}

// TestWhatever: places, numbers, messages, transactions and troubles of whatever content are answered as the model says, and the nodes go on.
func TestWhatever(t *testing.T) {
	r := rand.New(rand.NewSource(182))
	p := newPair(t, genesis(10, 10, 10, 10, 10, 10, 0), upTo(6), 1)
	p.rounds(20)
	st := p.state(0)
	b, _ := p.block(0, st.Height)
	_, cert := p.block(1, st.Height)
	v := api.Vote{Kind: api.Prevote, Height: st.Height + 1, From: 6}
	good := []api.Msg{
		voted(v), status(2), proof(st.Height, 6), {Kind: api.MsgTx, Tx: pays(6, 0)}, {Kind: api.MsgDecision, Block: b, Cert: cert},
		{Kind: api.MsgProposal, Proposal: api.Proposal{Height: st.Height + 1, ValidRound: -1, Id: idOf(b), From: 6}, Block: b},
		{Kind: api.MsgPolka, Block: b, Votes: []api.Vote{{Kind: api.Prevote, Height: 1, From: 2}, v}},
	}
	place := func() int {
		if r.Intn(3) > 0 {
			return r.Intn(7)
		}
		return places[r.Intn(len(places))]
	}
	number := func() uint64 {
		if r.Intn(2) == 0 {
			return uint64(r.Intn(9))
		}
		return edges[r.Intn(len(edges))]
	}
	for n := range 6000 {
		switch r.Intn(12) {
		case 0, 1, 2, 3:
			p.lie(place(), place()-1, bent(r, good[r.Intn(len(good))], r.Intn(3)))
		case 4:
			p.submit(place(), bent(r, pays(7, uint64(r.Intn(4))), r.Intn(3)))
		case 5:
			p.deliver(place(), r.Intn(2) == 0)
		case 6:
			p.drop(place())
		case 7:
			if k := place(); k != 0 { // clocks that are at their end stay there: node 0 goes on
				p.tick(k, number())
			}
		case 8:
			p.arm(place(), bent(r, api.Trouble{At: 3, Kind: api.TrPower}, r.Intn(3)))
		case 9:
			p.restart(place(), []int{place(), place(), place()}, byte(r.Intn(256)))
		case 10:
			p.rounds([]int{math.MinInt, -1, 0, 1, 1, 2, 65537, math.MaxInt}[r.Intn(8)])
		case 11:
			k, at := place(), place()
			from, to, form, e := p.c.Peek(at)
			from2, to2, form2, e2 := p.m.peek(at)
			if p.same("C2", e, e2); from != from2 || to != to2 || !slices.Equal(form, form2) {
				t.Fatalf("C2: another message at %d", at)
			}
			h := number()
			votes, e := p.c.Heard(k, h)
			votes2, e2 := p.m.heard(k, h)
			if p.same("C10", e, e2); !slices.Equal(votes, votes2) || p.c.Dead(k) != p.m.dead(k) {
				t.Fatalf("C10: other votes")
			}
			_, _, e = p.c.Block(k, h)
			_, e2 = p.c.Light(k, h)
			p.same("C9", e, e2)
			p.c.Signed(api.Addr(h))
		}
		if n%400 == 0 {
			p.lookAll(r)
		}
	}
	for _, e := range []api.Errno{api.OK, api.ErrNode, api.ErrActor, api.ErrArg, api.ErrKind, api.ErrField, api.ErrOrder, api.ErrDead, api.ErrOff, api.ErrNone, api.ErrFar, api.ErrKnown} {
		if p.counts[e] == 0 {
			t.Errorf("error %d was never answered: %v", e, p.counts)
		}
	}
	wantHonest(t, p.c.Signed(1))
}

// rich is a cluster in which every list of every answer has something.
func rich(t *testing.T) *world {
	t.Helper()
	d := newDictator(t)
	d.is("C6", d.c.Submit(0, api.Tx{Kind: api.TxUnbond, From: 2, Amount: 3}), api.OK)
	d.is("C6", d.c.Submit(1, api.Tx{Kind: api.TxUnbond, From: 2, Amount: 3}), api.OK)
	for k := range 2 {
		d.decide(k, 1, 30)
		d.decide(k, 1, 40)
	}
	d.decide(0, 1, 50)
	d.decide(1, 2, 50)
	d.tick(0, 2)
	d.tick(1, 2)
	d.is("C6", d.c.Submit(0, pays(3, 0)), api.OK)
	st := d.state(0)
	if guilts, _ := d.c.Blame(); len(guilts) == 0 || len(st.Past) == 0 || len(st.Ledger.Releases) == 0 || d.c.Pending() == 0 || len(d.c.Signed(5)) == 0 {
		t.Fatalf("something is empty")
	}
	return d.world
}

// TestHandedOut: each answer is new memory, its spare room too, and writing it over changes nothing.
func TestHandedOut(t *testing.T) {
	w := rich(t)
	was := tellAll(w.c, 2)
	var all []any
	for range 2 {
		for h := uint64(1); h <= 4; h++ {
			for _, x := range tellAll(w.c, h) {
				if v := reflect.ValueOf(x); v.Kind() == reflect.Slice || v.Kind() == reflect.Struct {
					all = append(all, x)
				}
			}
		}
	}
	wantApart(t, all...)
	for _, x := range all {
		spoil(x)
	}
	if !reflect.DeepEqual(tellAll(w.c, 2), was) {
		t.Fatalf("G3: an answer that is written over is seen again")
	}
	for range w.c.Pending() {
		w.is("C3", w.c.Deliver(0, false), api.OK)
	}
	w.rounds(10)
	for k := range 2 {
		if !sameState(w.played(k), w.state(k)) {
			t.Errorf("G3: node %d", k)
		}
	}
}

// TestHandedIn: what is handed in is not changed, nor the room behind it, and not kept.
func TestHandedIn(t *testing.T) {
	play := func(spoils bool) (all []any) {
		hand := func(x any, was any) {
			t.Helper()
			if !reflect.DeepEqual(x, was) {
				t.Fatalf("G3: what was handed in has changed")
			}
		}
		g, addrs := roomy(four()), roomy(upTo(4))
		wasG, wasA := whole(g), whole(addrs)
		c, e := cluster.New(g, addrs, 1)
		is(t, "C1", e, api.OK)
		hand(whole(g), wasG)
		hand(whole(addrs), wasA)
		if spoils {
			spoil(g)
			spoil(addrs)
		}
		w := &world{t: t, g: four(), addrs: upTo(4), liars: 1, c: c}
		w.rounds(25)
		st := w.state(0)
		_, last := w.block(0, st.Height)
		b, e := chain.Make(st, c.Registry(), nil, nil, last, 4)
		is(t, "Make", e, api.OK)
		own := api.Vote{Kind: api.Prevote, Height: st.Height + 1, Round: 1, Id: idOf(b), From: 4}
		for _, m := range []api.Msg{
			voted(own),
			{Kind: api.MsgProposal, Proposal: api.Proposal{Height: st.Height + 1, Round: 2, ValidRound: 1, Id: idOf(b), From: 4}, Block: b, Votes: []api.Vote{own}},
			{Kind: api.MsgPolka, Block: b, Votes: []api.Vote{own}},
			{Kind: api.MsgVote, Votes: []api.Vote{own, own}}, // refused
			{Kind: api.MsgDecision, Block: b, Cert: last},
			proof(st.Height, 4),
		} {
			m := roomy(m)
			was := whole(m)
			all = append(all, c.Lie(3, -1, m))
			hand(whole(m), was)
			if spoils {
				spoil(m)
			}
		}
		keep := roomy([]int{3, 30, 300})
		was := whole(keep)
		all = append(all, c.Restart(1, keep, 0))
		hand(whole(keep), was)
		if spoils {
			spoil(keep)
		}
		w.rounds(60)
		all = append(all, c.Restart(0, nil, 0), c.Restart(2, nil, 0))
		w.rounds(10)
		return append(all, tellAll(c, st.Height)...)
	}
	if !reflect.DeepEqual(play(false), play(true)) {
		t.Errorf("G3: what was handed in is kept")
	}
}

// TestTogether: clusters that are played at one time have nothing in common.
func TestTogether(t *testing.T) {
	var all [6]any
	t.Run("clusters", func(t *testing.T) {
		for k := range all {
			t.Run("", func(t *testing.T) {
				t.Parallel()
				w := begin(t, four(), 1)
				w.rounds(40)
				all[k] = tellAll(w.c, 3)
			})
		}
	})
	for _, x := range all {
		if !reflect.DeepEqual(x, all[0]) {
			t.Errorf("G4: a cluster has changed another one")
		}
	}
}
