package blame_test

import (
	"fmt"
	"math"
	"math/rand"
	"reflect"
	"slices"
	"testing"

	"assent/api"
	"assent/blame"
	"assent/seal"
)

// copyOf is what an object holds in another place: no New made that.
func copyOf[T any](was *T) *T {
	c := reflect.New(reflect.TypeFor[T]())
	c.Elem().Set(reflect.ValueOf(was).Elem())
	return c.Interface().(*T)
}

// TestNoRegistry: ErrNil is ahead of all else, and nobody is entered by asking.
func TestNoRegistry(t *testing.T) {
	o := four(t)
	a, b, votes := o.cert(0, v, 1, 2, 3), o.cert(2, w, 2, 3, 4), o.prevotes(1, w, 1, 2)
	g := forget(o.precommit(0, v, 2), o.prevote(1, w, 2))
	count := o.r.Count()
	for what, r := range map[string]*seal.Registry{"nil": nil, "zero": {}, "a copy": copyOf(o.r), "of another New": seal.New()} {
		want := api.ErrNil
		if what == "of another New" {
			want = api.ErrSeal
		}
		o.refused("G1: a registry that is "+what, r, a, b, want)
		is(t, "G1: a registry that is "+what, blame.Guilty(name, o.c, r, g, votes), want)
		if want == api.ErrNil {
			is(t, "G1: nothing beside a registry that is "+what, blame.Guilty("", api.Council{}, r, api.Guilt{}, nil), want)
			guilts, e := blame.Blame("", api.Council{}, r, api.Cert{}, api.Cert{}, nil)
			is(t, "G1: nothing beside a registry that is "+what, e, want)
			if guilts != nil {
				t.Errorf("G2: %s", tell(guilts))
			}
		}
	}
	o.want("G1", a, b, votes, forget(o.precommit(0, v, 1), o.prevote(1, w, 1)), g)
	if o.r.Known(0) || o.r.Count() != count {
		t.Errorf("G3: the registry has changed")
	}
}

// edges are numbers at which something might wrap.
var edges = []uint64{0, 1, 2, 3, 4, height, 63, 64, api.MaxRound - 1, api.MaxRound, api.MaxRound + 1, api.MaxHeight, api.MaxHeight + 1, api.MaxTime, api.MaxTime + 1, api.MaxSupply, api.MaxSupply + 1, math.MaxInt64, math.MaxInt64 + 1, math.MaxUint64 - 1, math.MaxUint64}

// fill lays any numbers into all that a value has, and lists of a few elements.
func fill(r *rand.Rand, v reflect.Value) {
	switch v.Kind() {
	case reflect.Struct:
		for k := range v.NumField() {
			fill(r, v.Field(k))
		}
	case reflect.Array:
		v.Index(r.Intn(v.Len())).SetUint(uint64(r.Intn(3)))
	case reflect.Slice:
		v.Set(reflect.MakeSlice(v.Type(), r.Intn(4), 4))
		for k := range v.Len() {
			fill(r, v.Index(k))
		}
	case reflect.Uint64:
		v.SetUint(edges[r.Intn(len(edges))])
	case reflect.Int, reflect.Int64:
		v.SetInt(int64(edges[r.Intn(len(edges))]))
	default:
		panic(v.Kind())
	}
}

// bent is a value of which some parts hold something else; its lists are new.
func bent[T any](r *rand.Rand, x T, parts int) T {
	x = roomy(x)
	for range parts {
		v := reflect.ValueOf(&x).Elem()
		for {
			if v.Kind() == reflect.Struct {
				v = v.Field(r.Intn(v.NumField()))
				continue
			}
			if v.Kind() == reflect.Slice && v.Len() > 0 && r.Intn(4) > 0 {
				v = v.Index(r.Intn(v.Len()))
				continue
			}
			fill(r, v)
			break
		}
	}
	return x
}

// TestWhatever: councils, certificates, guilts and votes of whatever content are answered as the chapter says.
func TestWhatever(t *testing.T) {
	r := rand.New(rand.NewSource(171))
	counts := map[api.Errno]int{}
	for range 6000 {
		p := newPlay(t, r.Int63())
		c, a, b, votes, g := p.c, p.someCert(), p.someCert(), p.list(2), p.someGuilt(nil)
		g.A = p.sign(name, g.A)
		switch r.Intn(6) {
		case 0:
			c = bent(r, c, 1+r.Intn(2))
		case 1:
			a = bent(r, a, 1+r.Intn(2))
		case 2:
			b = bent(r, b, 1+r.Intn(2))
		case 3:
			votes = bent(r, votes, 1+r.Intn(5))
		case 4:
			g = bent(r, g, 1+r.Intn(2))
		case 5:
			[]*api.Cert{&a, &b}[r.Intn(2)].Marks = nil
			if r.Intn(4) == 0 {
				a = api.Cert{}
			}
		}
		chain := name
		if r.Intn(20) == 0 {
			chain = []string{"", "d", "seventeen letters", "\x00\xff"}[r.Intn(4)]
		}
		got, e := blame.Blame(chain, c, p.r, a, b, votes)
		want, refusal := modelBlame(chain, c, p.r, a, b, votes)
		if e != refusal || !slices.Equal(got, want) || e != api.OK && got != nil {
			t.Fatalf("B1: %v, %v, %v: error %d,%s\nwant %d,%s", c, a, b, e, tell(got), refusal, tell(want))
		}
		counts[e]++
		e, refusal = blame.Guilty(chain, c, p.r, g, votes), modelGuilty(chain, c, p.r, g, votes)
		if e != refusal {
			t.Fatalf("B2: %v, %s: error %d, want %d", c, tell([]api.Guilt{g}), e, refusal)
		}
		counts[e]++
		blame.Power(c, append(got, g, api.Guilt{}, bent(r, g, 2)))
	}
	for _, e := range []api.Errno{api.OK, api.ErrArg, api.ErrKind, api.ErrField, api.ErrOrder, api.ErrEmpty, api.ErrNobody, api.ErrDouble, api.ErrPower, api.ErrTotal, api.ErrCert, api.ErrMember, api.ErrSeal, api.ErrQuorum, api.ErrSame, api.ErrPair} {
		if counts[e] == 0 {
			t.Errorf("the error %d was never answered: %v", e, counts)
		}
	}
}

// roomy is the same value, each list new, with room behind it in which something stands: what is at its front, and something else.
func roomy[T any](x T) T {
	giveRoom(reflect.ValueOf(&x).Elem())
	return x
}

func giveRoom(v reflect.Value) {
	switch v.Kind() {
	case reflect.Struct:
		for k := range v.NumField() {
			giveRoom(v.Field(k))
		}
	case reflect.Slice:
		list := reflect.MakeSlice(v.Type(), v.Len()+2, v.Len()+2)
		reflect.Copy(list, v)
		if v.Len() > 0 {
			list.Index(v.Len()).Set(v.Index(0))
		}
		v.Set(list.Slice(0, v.Len()))
	}
}

// within is a copy of a list with all that lies in the room behind it.
func within[T any](list []T) []T { return slices.Clone(list[:cap(list)]) }

// spoil writes over a list and the room behind it.
func spoil[T any](list []T, with T) {
	list = list[:cap(list)]
	for k := range list {
		list[k] = with
	}
}

// TestHandedIn: no call changes what it is handed, or the room behind it, or hands it out.
func TestHandedIn(t *testing.T) {
	for seed := range int64(300) {
		p := newPlay(t, seed)
		c, a, b, votes := roomy(p.c), roomy(p.someCert()), roomy(p.someCert()), roomy(p.list(3))
		members, marksA, marksB, all := within(c.Members), within(a.Marks), within(b.Marks), within(votes)
		got, e := blame.Blame(name, c, p.r, a, b, votes)
		list := roomy(append(slices.Clone(got), p.someGuilt(votes)))
		guilts := within(list)
		for _, g := range list {
			blame.Guilty(name, c, p.r, g, votes)
		}
		blame.Power(c, list)
		if !slices.Equal(within(c.Members), members) || !slices.Equal(within(a.Marks), marksA) || !slices.Equal(within(b.Marks), marksB) || !slices.Equal(within(votes), all) || !slices.Equal(within(list), guilts) {
			t.Fatalf("G3: a call has changed what it was handed")
		}
		kept := within(got)
		spoil(c.Members, api.Member{Addr: 7})
		spoil(a.Marks, api.Mark{Index: 3})
		spoil(b.Marks, api.Mark{Index: 3})
		spoil(votes, api.Vote{From: 3})
		if !slices.Equal(within(got), kept) {
			t.Fatalf("G3: an answer is what was handed in")
		}
		want, refusal := modelBlame(name, p.c, p.r, api.Cert{Height: a.Height, Round: a.Round, Id: a.Id, Marks: marksA[:len(a.Marks)]}, api.Cert{Height: b.Height, Round: b.Round, Id: b.Id, Marks: marksB[:len(b.Marks)]}, all[:len(votes)])
		if e != refusal || !slices.Equal(got, want) {
			t.Fatalf("G3: the room behind a list counts: error %d,%s\nwant %d,%s", e, tell(got), refusal, tell(want))
		}
	}
}

// TestHandedOut: each answer is new memory, its spare room too.
func TestHandedOut(t *testing.T) {
	o := newAside(t)
	votes := joined(o.prevotes(1, v, 4, 5, 6), o.prevotes(1, w, 4, 5, 6), o.prevotes(2, v, 4, 5, 6), o.prevotes(2, w, 4, 5, 6))
	ask := func() []api.Guilt {
		got, _ := blame.Blame(name, o.c, o.r, o.a, o.b, votes)
		return got
	}
	want := ask()
	if len(want) != 6 {
		t.Fatalf("B1: %s", tell(want))
	}
	first := ask()
	for range 3 {
		spoil(ask(), api.Guilt{Addr: 9, Kind: 9})
		if !slices.Equal(first, want) || !slices.Equal(ask(), want) {
			t.Fatalf("G3: an answer was changed by another")
		}
	}
	for _, g := range within(first)[len(first):] {
		if g != (api.Guilt{}) {
			t.Errorf("G3: in the room behind an answer stands%s", tell([]api.Guilt{g}))
		}
	}
}

// TestAgainTheSame: the same calls, the same answers, whatever order a map is gone through in, and whatever else is asked.
func TestAgainTheSame(t *testing.T) {
	run := func(seed int64) string {
		p := newPlay(t, seed)
		a, b, votes := p.someCert(), p.someCert(), p.list(api.Addr(p.Intn(5)))
		var all []any
		for range 4 {
			got, e := blame.Blame(name, p.c, p.r, a, b, votes)
			all = append(all, got, e, blame.Power(p.c, got))
		}
		for range 10 {
			g := p.someGuilt(votes)
			all = append(all, blame.Guilty(name, p.c, p.r, g, votes), blame.Guilty(name, p.c, p.r, g, votes))
		}
		if !reflect.DeepEqual(all[:3], all[9:12]) {
			t.Fatalf("G4: the same call answers %v and %v", all[:3], all[9:12])
		}
		return fmt.Sprint(all...)
	}
	for seed := range int64(100) {
		if run(seed) != run(seed) {
			t.Fatalf("G4: the calls of the seed %d are answered otherwise", seed)
		}
	}
}

// TestEmptyLists: nil lists and empty ones mean the same.
func TestEmptyLists(t *testing.T) {
	o := four(t)
	a, b := o.cert(0, v, 1, 2, 3), o.cert(0, w, 2, 3, 4)
	for _, votes := range [][]api.Vote{nil, {}} {
		if got := o.blame("G1", a, b, votes); len(got) != 2 {
			t.Errorf("G1: %s", tell(got))
		}
		o.guilty("G1", forget(o.precommit(0, v, 1), o.prevote(1, w, 1)), votes, api.OK)
	}
	empty := api.Council{Members: []api.Member{}}
	_, e := blame.Blame(name, empty, o.r, a, b, nil)
	is(t, "G1", e, api.ErrEmpty)
	is(t, "G1", blame.Guilty(name, empty, o.r, api.Guilt{}, nil), api.ErrEmpty)
	a.Marks = []api.Mark{}
	_, e = blame.Blame(name, o.c, o.r, a, b, nil)
	is(t, "G1", e, api.ErrQuorum)
}
