package light_test

import (
	"fmt"
	"math"
	"reflect"
	"slices"
	"testing"

	"assent/api"
	"assent/light"
	"assent/seal"
)

// refuse is a fetch that gives nothing.
func refuse(e api.Errno) func(uint64) (api.LightBlock, api.Errno) {
	return func(uint64) (api.LightBlock, api.Errno) { return api.LightBlock{}, e }
}

func TestNew(t *testing.T) {
	w := examples(t)
	for _, c := range []struct {
		what string
		p    api.Params
		name string
		r    *seal.Registry
		at   int
		now  uint64
		want api.Errno
	}{
		{"the first", params, name, w.r, 1, 15, api.OK},
		{"another one", params, name, w.r, 7, 70, api.OK},
		{"no book, ahead of all else", api.Params{Drift: math.MaxUint64}, "d", nil, 0, math.MaxUint64, api.ErrNil},
		{"a book that is none", params, name, &seal.Registry{}, 1, 15, api.ErrNil},
		{"a late clock, ahead of what is wrong with the block", params, "d", w.r, 0, api.MaxTime + 1, api.ErrArg},
		{"a long trust", api.Params{Trusting: api.MaxTicks + 1}, "d", w.r, 0, 15, api.ErrArg},
		{"a long drift", api.Params{Drift: api.MaxTicks + 1}, "d", w.r, 0, 15, api.ErrArg},
		{"the longest", api.Params{Trusting: api.MaxTicks, Drift: api.MaxTicks}, name, w.r, 1, 0, api.OK},
		{"another chain's, ahead of old", params, "d", w.r, 1, 500, api.ErrChain},
		{"no block, ahead of old", api.Params{}, "", w.r, 0, 500, api.ErrField},
		{"just not expired", params, name, w.r, 1, 109, api.OK},
		{"expired", params, name, w.r, 1, 110, api.ErrOld},
		{"expired and ahead at once can't be", api.Params{}, name, w.r, 1, 10, api.ErrOld},
		{"just not ahead", params, name, w.r, 1, 5, api.OK},
		{"ahead", params, name, w.r, 1, 4, api.ErrAhead},
		{"no trust at all, yet not expired", api.Params{Drift: 5}, name, w.r, 1, 9, api.OK},
		{"the latest clock", params, name, w.r, 1, api.MaxTime, api.ErrOld},
		{"a book in which nobody has signed", params, name, seal.New(), 1, 15, api.ErrSeal},
	} {
		client, e := light.New(c.p, c.name, c.r, w.chain[c.at], c.now)
		is(t, "P16.3: "+c.what, e, c.want)
		if (client == nil) != (c.want != api.OK) {
			t.Errorf("P16.3: %s: a client: %v", c.what, client != nil)
		}
		if client != nil {
			w.wantTrusted("P16.3: "+c.what, client, uint64(c.at))
		}
	}
}

// TestClientKeeps: p, the chain's name, the registry and the clock are those of New.
func TestClientKeeps(t *testing.T) {
	w := examples(t)
	s := &source{world: w}
	c, _ := light.New(api.Params{Trusting: 30, Drift: 5}, name, w.r, w.chain[1], 15)
	is(t, "P16.3: the clock of New, and its Drift", c.Update(3, 0, s.fetch), api.ErrAhead)
	is(t, "P16.3: the clock of New, and its Drift", c.Update(2, 0, s.fetch), api.OK)
	is(t, "P16.3: New's Trusting", c.Update(3, 49, s.fetch), api.OK)
	is(t, "P16.3: New's Trusting", c.Update(4, 60, s.fetch), api.ErrOld)
	w.wantTrusted("P16.3", c, 1, 2, 3)

	d := w.client(1, 15)
	foreign := w.resigned(w.chain[2], func(h *api.Header) { h.Chain = "d" })
	give := func(uint64) (api.LightBlock, api.Errno) { return foreign, api.OK }
	is(t, "P16.3: New's chain", d.Update(2, 20, give), api.ErrChain)
	other := examples(t) // the same chain, signed in another book
	other.chain[2] = other.resigned(other.chain[2], func(h *api.Header) { h.State[0] = 1 })
	give = func(uint64) (api.LightBlock, api.Errno) { return other.chain[2], api.OK }
	is(t, "P16.3: New's registry", d.Update(2, 20, give), api.ErrSeal)
	is(t, "P16.3", w.client(1, 15).Update(2, 20, s.fetch), api.OK)
	later := w.resigned(w.chain[2], func(h *api.Header) { h.State[0] = 2 })
	is(t, "P16.3: what is signed later counts", d.Update(2, 20, func(uint64) (api.LightBlock, api.Errno) { return later, api.OK }), api.OK)
	*w.r = seal.Registry{}
	is(t, "P16.4: the registry is none any more", d.Update(3, 30, s.fetch), api.ErrNil)
	if got := d.Heights(); !slices.Equal(got, []uint64{1, 2}) {
		t.Errorf("P16.6: %v", got)
	}
}

func TestUpdateRefusals(t *testing.T) {
	w := examples(t)
	s := &source{world: w}
	c := w.client(3, 35)
	for _, x := range []struct {
		what        string
		height, now uint64
		fetch       func(uint64) (api.LightBlock, api.Errno)
		want        api.Errno
		asked       []uint64
	}{
		{"no fetch, ahead of all else", 0, math.MaxUint64, nil, api.ErrNil, nil},
		{"no fetch of what is trusted", 3, 35, nil, api.ErrNil, nil},
		{"height 0", 0, 35, s.fetch, api.ErrArg, nil},
		{"a height above the limit", api.MaxHeight + 1, 35, s.fetch, api.ErrArg, nil},
		{"the greatest number", math.MaxUint64, 35, s.fetch, api.ErrArg, nil},
		{"a clock above the limit", 5, api.MaxTime + 1, s.fetch, api.ErrArg, nil},
		{"a clock above the limit, of what is trusted", 3, api.MaxTime + 1, s.fetch, api.ErrArg, nil},
		{"the greatest clock", 2, math.MaxUint64, s.fetch, api.ErrArg, nil},
		{"trusted", 3, 35, s.fetch, api.OK, nil},
		{"trusted, and fetch would refuse", 3, 35, refuse(api.ErrFault), api.OK, nil},
		{"below the least", 2, 35, s.fetch, api.ErrHeight, nil},
		{"below the least", 1, 35, s.fetch, api.ErrHeight, nil},
		{"what there is none of", 12, 35, s.fetch, api.ErrNone, []uint64{12}},
		{"the greatest height", api.MaxHeight, 35, s.fetch, api.ErrNone, []uint64{api.MaxHeight}},
		{"ahead", 9, 35, s.fetch, api.ErrAhead, []uint64{9}},
		{"refused", 5, 35, refuse(api.ErrFault), api.ErrFault, nil},
		{"refused with the number that Skipping has", 5, 35, refuse(api.ErrTrust), api.ErrTrust, nil},
		{"refused with the number that Skipping has, of the next", 4, 35, refuse(api.ErrTrust), api.ErrTrust, nil},
		{"refused with a number of nobody's", 5, 35, refuse(-7), -7, nil},
		{"refused, and a good block beside", 4, 35, func(h uint64) (api.LightBlock, api.Errno) { return w.chain[h], api.ErrArg }, api.ErrArg, nil},
		{"another height", 4, 35, func(uint64) (api.LightBlock, api.Errno) { return w.chain[5], api.OK }, api.ErrHeight, nil},
		{"the trusted one itself", 4, 35, func(uint64) (api.LightBlock, api.Errno) { return w.chain[3], api.OK }, api.ErrHeight, nil},
		{"nothing", 4, 35, refuse(api.OK), api.ErrHeight, nil},
		{"another chain's, and another height", 4, 35, func(uint64) (api.LightBlock, api.Errno) {
			return api.LightBlock{Header: api.Header{Chain: "d"}}, api.OK
		}, api.ErrHeight, nil},
	} {
		is(t, "P16.4: "+x.what, c.Update(x.height, x.now, x.fetch), x.want)
		s.wantAsked("P16.4: "+x.what, x.asked...)
		w.wantTrusted("P16.9: "+x.what, c, 3)
	}
	is(t, "P16.9", c.Update(5, 45, s.fetch), api.OK)
	s.wantAsked("P16.9", 5, 4)
	w.wantTrusted("P16.9", c, 3, 4, 5)
}

// TestRefusedHalfWay: whatever is wrong with a block on the way, nothing of the way comes to be trusted, and with another fetch the same Update may be let.
func TestRefusedHalfWay(t *testing.T) {
	w := examples(t)
	l := w.chain
	for _, x := range []struct {
		what  string
		at    uint64
		given api.LightBlock
		e     api.Errno
		want  api.Errno
		asked []uint64
	}{
		{"9 is refused", 9, api.LightBlock{}, api.ErrNone, api.ErrNone, []uint64{9}},
		{"5 is refused", 5, api.LightBlock{}, api.ErrNone, api.ErrNone, []uint64{9, 5}},
		{"3 is refused", 3, api.LightBlock{}, api.ErrSource, api.ErrSource, []uint64{9, 5, 3}},
		{"4 is refused", 4, l[4], api.ErrTrust, api.ErrTrust, []uint64{9, 5, 3, 4}},
		{"of 4 another height is given", 4, l[5], api.OK, api.ErrHeight, []uint64{9, 5, 3, 4}},
		{"of 3 another chain's is given", 3, w.resigned(l[3], func(h *api.Header) { h.Chain = "d" }), api.OK, api.ErrChain, []uint64{9, 5, 3}},
		{"of 4 one that is not signed by enough", 4, w.block(l[4].Header, l[4].Council, 2), api.OK, api.ErrQuorum, []uint64{9, 5, 3, 4}},
		{"4 is not behind 3", 4, w.resigned(l[4], func(h *api.Header) { h.Last[0]++ }), api.OK, api.ErrLast, []uint64{9, 5, 3, 4}},
		{"4 names another council", 4, w.resigned(l[4], func(h *api.Header) { h.Next[0]++ }), api.OK, api.ErrLast, []uint64{9, 5, 3, 4}}, // then 5 is not behind it
		{"3 is no later than 1", 3, w.resigned(l[3], func(h *api.Header) { h.Time = 10 }), api.OK, api.ErrTime, []uint64{9, 5, 3}},
		{"3 is later than 4", 3, w.resigned(l[3], func(h *api.Header) { h.Time = 45 }), api.OK, api.ErrTime, []uint64{9, 5, 3, 4}},
		{"5 is ahead", 5, w.resigned(l[5], func(h *api.Header) { h.Time = 96 }), api.OK, api.ErrAhead, []uint64{9, 5}},
		{"5 is later than 9", 5, w.resigned(l[5], func(h *api.Header) { h.Time = 95 }), api.OK, api.ErrTime, []uint64{9, 5, 3, 4}},
	} {
		s := &source{world: w}
		c := w.client(1, 15)
		lie := func(height uint64) (api.LightBlock, api.Errno) {
			u, e := s.fetch(height)
			if height == x.at {
				return x.given, x.e
			}
			return u, e
		}
		is(t, "P16.4: "+x.what, c.Update(9, 90, lie), x.want)
		s.wantAsked("P16.4: "+x.what, x.asked...)
		w.wantTrusted("P16.9: "+x.what, c, 1)
		is(t, "P16.9: "+x.what, c.Update(9, 90, s.fetch), api.OK)
		s.wantAsked("P16.9: "+x.what, 9, 5, 3, 4)
		w.wantTrusted("P16.9: "+x.what, c, 1, 3, 4, 5, 9)
	}
}

// TestFrom: from which trusted block an Update goes, and by way of which heights.
func TestFrom(t *testing.T) {
	w := examples(t)
	s := &source{world: w}
	c := w.client(2, 30)
	for _, x := range []struct {
		height  uint64
		asked   []uint64
		trusted []uint64
	}{
		{4, []uint64{4}, []uint64{2, 4}},
		{3, []uint64{3}, []uint64{2, 3, 4}},
		{8, []uint64{8, 6, 5}, []uint64{2, 3, 4, 5, 6, 8}},
		{7, []uint64{7}, []uint64{2, 3, 4, 5, 6, 7, 8}},
		{9, []uint64{9}, []uint64{2, 3, 4, 5, 6, 7, 8, 9}},
		{6, nil, []uint64{2, 3, 4, 5, 6, 7, 8, 9}},
	} {
		is(t, fmt.Sprint("P16.4: ", x.height), c.Update(x.height, 90, s.fetch), api.OK)
		s.wantAsked(fmt.Sprint("P16.4: ", x.height), x.asked...)
		w.wantTrusted(fmt.Sprint("P16.4: ", x.height), c, x.trusted...)
	}
	// 7 is to be let from 5, not from 9, which is nearer to the clock.
	d := w.client(5, 60)
	is(t, "P16.4", d.Update(9, 90, s.fetch), api.OK)
	is(t, "P16.4: t is 5", d.Update(7, 150, s.fetch), api.ErrOld)
	is(t, "P16.4: t is 5", d.Update(6, 149, s.fetch), api.ErrOld)
	is(t, "P16.4: t is 9", d.Update(10, 150, s.fetch), api.ErrNone)
	w.wantTrusted("P16.4", d, 5, 9)
}

// TestClock: it is set on by each Update that is not ErrNil or ErrArg, whatever the answer, and never goes back.
func TestClock(t *testing.T) {
	w := examples(t)
	s := &source{world: w}
	// An Update of 4 at 30 tells where the clock is: below 35 it is ErrAhead, from 130 on ErrOld.
	for _, x := range []struct {
		what  string
		calls func(*light.Client)
		want  api.Errno
	}{
		{"nothing", func(*light.Client) {}, api.ErrAhead},
		{"no fetch", func(c *light.Client) { c.Update(4, 100, nil) }, api.ErrAhead},
		{"height 0", func(c *light.Client) { c.Update(0, 100, s.fetch) }, api.ErrAhead},
		{"a height above the limit", func(c *light.Client) { c.Update(api.MaxHeight+1, 100, s.fetch) }, api.ErrAhead},
		{"a clock above the limit", func(c *light.Client) { c.Update(4, api.MaxTime+1, s.fetch) }, api.ErrAhead},
		{"trusted", func(c *light.Client) { c.Update(3, 35, s.fetch) }, api.OK},
		{"below", func(c *light.Client) { c.Update(1, 35, s.fetch) }, api.OK},
		{"refused", func(c *light.Client) { c.Update(12, 35, s.fetch) }, api.OK},
		{"back", func(c *light.Client) { c.Update(12, 35, s.fetch); c.Update(12, 0, s.fetch) }, api.OK},
		{"later", func(c *light.Client) { c.Update(3, 129, s.fetch) }, api.OK},
		{"expired", func(c *light.Client) { c.Update(3, 130, s.fetch) }, api.ErrOld},
		{"the latest", func(c *light.Client) { c.Update(3, api.MaxTime, s.fetch) }, api.ErrOld},
		{"the latest, and back", func(c *light.Client) { c.Update(3, api.MaxTime, s.fetch); c.Update(3, 35, s.fetch) }, api.ErrOld},
	} {
		c := w.client(3, 28)
		x.calls(c)
		is(t, "P16.4: the clock: "+x.what, c.Update(4, 30, s.fetch), x.want)
	}
}

// TestTrusted: only what is trusted is told.
func TestTrusted(t *testing.T) {
	w := examples(t)
	c := w.client(3, 35)
	for _, h := range []uint64{0, 1, 2, 4, api.MaxHeight, api.MaxHeight + 1, math.MaxUint64} {
		if u, e := c.Trusted(h); e != api.ErrNone || !reflect.DeepEqual(u, api.LightBlock{}) {
			t.Errorf("P16.5: %d: %v, error %d", h, u, e)
		}
	}
	if u, e := c.Trusted(3); e != api.OK || !reflect.DeepEqual(u, w.chain[3]) {
		t.Errorf("P16.5: %v, error %d", u, e)
	}
	other := w.block(w.chain[3].Header, seats(1, 2, 3))
	other.Cert = w.cert(other.Header, 4, other.Council, 1, 2, 3)
	other.Council.Members[1].Priority = 5
	is(t, "P16.6", c.Update(3, 35, func(uint64) (api.LightBlock, api.Errno) { return other, api.OK }), api.OK)
	is(t, "P16.4", c.Update(4, 45, (&source{world: w}).fetch), api.OK)
	if u, _ := c.Trusted(3); u.Cert.Round != 0 || u.Council.Members[1].Priority != 0 {
		t.Errorf("P16.6: another certificate: %v", u)
	}
}

// TestPriorities: they are bound by no header, and told as they were given.
func TestPriorities(t *testing.T) {
	w := examples(t)
	first := w.chain[1]
	first.Council = api.Council{Members: slices.Clone(first.Council.Members)}
	first.Council.Members[2].Priority = -21
	c, e := light.New(params, name, w.r, first, 15)
	if u, _ := c.Trusted(1); e != api.OK || u.Council.Members[2].Priority != -21 {
		t.Errorf("P16.5: %v, error %d", u, e)
	}
	is(t, "P16.2", c.Update(3, 40, (&source{world: w}).fetch), api.OK)
	first.Council.Members[2].Priority = -22
	_, e = light.New(params, name, w.r, first, 15)
	is(t, "P16.3", e, api.ErrArg)
}

// TestTop: heights up to the greatest one.
func TestTop(t *testing.T) {
	w := newWorld(t)
	w.chain = []api.LightBlock{{Header: api.Header{Chain: name, Height: api.MaxHeight - 10, Time: api.MaxTime - 200, Proposer: 1}}}
	low, high := seats(1, 2, 3), seats(4, 5, 6)
	w.grow(low, low, low, low, high, high, high, high, high, high)
	at := func(h uint64) (api.LightBlock, api.Errno) { return w.chain[h-(api.MaxHeight-10)], api.OK }
	first, _ := at(api.MaxHeight - 9)
	c, e := light.New(params, name, w.r, first, api.MaxTime-190)
	is(t, "P16.3", e, api.OK)
	is(t, "P16.4", c.Update(api.MaxHeight, api.MaxTime-100, at), api.OK)
	if got := c.Heights(); c.Latest() != api.MaxHeight || len(got) != 5 {
		t.Errorf("P16.5: %v", got)
	}
	is(t, "P16.4", c.Update(api.MaxHeight-8, api.MaxTime-100, at), api.OK)
	is(t, "P16.4: expired", c.Update(api.MaxHeight-1, api.MaxTime, at), api.ErrOld)
	is(t, "P16.4", c.Update(api.MaxHeight+1, api.MaxTime, at), api.ErrArg)
}

// TestOneFetch: councils of which enough stays need no block between.
func TestOneFetch(t *testing.T) {
	w := newWorld(t)
	var councils []api.Council
	for h := range api.Addr(120) {
		councils = append(councils, seats(1, 2, 10+h%7, 20+h%5, 30+h%3)) // 2 of 5 stay: more than a third
	}
	w.grow(councils...)
	s := &source{world: w}
	for _, from := range []uint64{1, 2, 17, 60} {
		for _, to := range []uint64{61, 62, 63, 64, 99, 120} {
			c, e := light.New(api.Params{Trusting: 5000, Drift: 5}, name, w.r, w.chain[from], 1200)
			is(t, "P16.3", e, api.OK)
			is(t, "P16.10", c.Update(to, 1200, s.fetch), api.OK)
			s.wantAsked("P16.10", to)
			w.wantTrusted("P16.10", c, from, to)
		}
	}
}

// TestAllBetween: where nobody of a council stays every block between is needed, and each is fetched once.
func TestAllBetween(t *testing.T) {
	w := newWorld(t)
	var councils []api.Council
	for h := range api.Addr(40) {
		councils = append(councils, seats(10*h+1, 10*h+2))
	}
	w.grow(councils...)
	s := &source{world: w}
	c, _ := light.New(api.Params{Trusting: 5000}, name, w.r, w.chain[1], 400)
	is(t, "P16.4", c.Update(40, 400, s.fetch), api.OK)
	if s.asked[0] != 40 || s.asked[1] != 20 || s.asked[2] != 10 || s.asked[3] != 5 || s.asked[4] != 3 || s.asked[5] != 2 {
		t.Errorf("P16.4: fetched are %v", s.asked)
	}
	slices.Sort(s.asked)
	var all []uint64
	for h := uint64(2); h <= 40; h++ {
		all = append(all, h)
	}
	s.wantAsked("P16.7", all...)
	w.wantTrusted("P16.4", c, append([]uint64{1}, all...)...)
}

// TestMostFetches: MaxItems blocks may be fetched in one Update, and one more is refused.
func TestMostFetches(t *testing.T) {
	w := newWorld(t)
	var councils []api.Council
	for h := range api.Addr(api.MaxItems + 2) {
		councils = append(councils, seats(h+1))
	}
	w.grow(councils...)
	s := &source{world: w}
	const now = 10 * (api.MaxItems + 2)
	c, _ := light.New(api.Params{Trusting: api.MaxTicks}, name, w.r, w.chain[1], now)
	is(t, "P16.4: one too many", c.Update(api.MaxItems+2, now, s.fetch), api.ErrBig)
	if len(s.asked) != api.MaxItems {
		t.Errorf("P16.4: %d were fetched", len(s.asked))
	}
	if got := c.Heights(); !slices.Equal(got, []uint64{1}) || c.Latest() != 1 {
		t.Errorf("P16.9: %d heights are trusted", len(got))
	}
	s.asked = nil
	is(t, "P16.4: just as many", c.Update(api.MaxItems+1, now, s.fetch), api.OK)
	if len(s.asked) != api.MaxItems {
		t.Errorf("P16.4: %d were fetched", len(s.asked))
	}
	if got := c.Heights(); len(got) != api.MaxItems+1 || c.Latest() != api.MaxItems+1 || !slices.IsSorted(got) {
		t.Errorf("P16.5: %d heights are trusted", len(got))
	}
	s.asked = nil
	is(t, "P16.4: counted anew", c.Update(api.MaxItems+2, now, s.fetch), api.OK)
	s.wantAsked("P16.4", api.MaxItems+2)
}
