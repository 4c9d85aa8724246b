package light_test

import (
	"reflect"
	"slices"
	"testing"

	"assent/api"
	"assent/council"
	"assent/light"
	"assent/seal"
	"assent/wire"
)

const name = "c"

// params are those of the chapter's examples.
var params = api.Params{Trusting: 100, Drift: 5}

// world is a book of seals with everybody's signers, and a chain: at place h its block of the height h.
type world struct {
	t       *testing.T
	r       *seal.Registry
	signers map[api.Addr]*seal.Signer
	chain   []api.LightBlock
}

func newWorld(t *testing.T) *world {
	return &world{t: t, r: seal.New(), signers: map[api.Addr]*seal.Signer{}, chain: []api.LightBlock{{}}}
}

// examples is the world of the chapter's: nine blocks of the times 10 to 90, by 1, 2, 3 up to height 4, by 4, 5, 6 from height 5 on.
func examples(t *testing.T) *world {
	t.Helper()
	w := newWorld(t)
	low, high := seats(1, 2, 3), seats(4, 5, 6)
	w.grow(low, low, low, low, high, high, high, high, high)
	return w
}

func seats(addrs ...api.Addr) (c api.Council) {
	for _, a := range addrs {
		c.Members = append(c.Members, api.Member{Addr: a, Power: 1})
	}
	return c
}

func digestOf(t *testing.T, c api.Council) api.Hash {
	t.Helper()
	h, e := council.Digest(c)
	if e != api.OK {
		t.Fatalf("Digest of %v: error %d", c, e)
	}
	return h
}

func idOf(t *testing.T, h api.Header) api.Hash {
	t.Helper()
	id, e := wire.BlockId(h)
	if e != api.OK {
		t.Fatalf("BlockId of %v: error %d", h, e)
	}
	return id
}

// grow puts a block by each of the councils behind the chain, ten ticks behind one another, signed by all; the last one's names itself as the next.
func (w *world) grow(councils ...api.Council) {
	w.t.Helper()
	for k, c := range councils {
		last := w.chain[len(w.chain)-1].Header
		h := api.Header{Chain: name, Height: last.Height + 1, Time: last.Time + 10, Proposer: 1, Council: digestOf(w.t, c)}
		h.Next = digestOf(w.t, councils[min(k+1, len(councils)-1)])
		if last.Height > 0 {
			h.Last = idOf(w.t, last)
		}
		w.chain = append(w.chain, w.block(h, c))
	}
}

// block is a light block of a header, signed by all of a council but some.
func (w *world) block(h api.Header, c api.Council, but ...api.Addr) api.LightBlock {
	w.t.Helper()
	var by []api.Addr
	for _, m := range c.Members {
		if !slices.Contains(but, m.Addr) {
			by = append(by, m.Addr)
		}
	}
	return api.LightBlock{Header: h, Cert: w.cert(h, 0, c, by...), Council: c}
}

// cert is a certificate of a header by those members of a council.
func (w *world) cert(h api.Header, round int, c api.Council, by ...api.Addr) api.Cert {
	w.t.Helper()
	x := api.Cert{Height: h.Height, Round: round, Id: idOf(w.t, h)}
	for k, m := range c.Members {
		if slices.Contains(by, m.Addr) {
			x.Marks = append(x.Marks, w.mark(name, x, k, m.Addr, min(h.Time+1, api.MaxTime)))
		}
	}
	return x
}

// mark is a precommit for what a certificate is of, sealed for a chain.
func (w *world) mark(chain string, x api.Cert, place int, from api.Addr, time uint64) api.Mark {
	w.t.Helper()
	if w.signers[from] == nil {
		w.signers[from], _ = w.r.Enter(from)
	}
	msg, e := wire.VoteBytes(chain, api.Vote{Kind: api.Precommit, Height: x.Height, Round: x.Round, Id: x.Id, Time: time, From: from})
	if e != api.OK {
		w.t.Fatalf("VoteBytes: error %d", e)
	}
	s, e := w.signers[from].Sign(msg)
	if e != api.OK {
		w.t.Fatalf("Sign: error %d", e)
	}
	return api.Mark{Index: place, Time: time, Seal: s}
}

// resigned is a block whose header was changed, signed anew by all of its council.
func (w *world) resigned(u api.LightBlock, change func(*api.Header)) api.LightBlock {
	w.t.Helper()
	change(&u.Header)
	return w.block(u.Header, u.Council)
}

func is(t *testing.T, what string, got, want api.Errno) {
	t.Helper()
	if got != want {
		t.Errorf("%s: error %d, want %d", what, got, want)
	}
}

func (w *world) adjacent(what string, t, u api.LightBlock, now uint64, want api.Errno) {
	w.t.Helper()
	is(w.t, what, light.Adjacent(params, name, w.r, t, u, now), want)
}

func (w *world) skipping(what string, t, u api.LightBlock, now uint64, want api.Errno) {
	w.t.Helper()
	is(w.t, what, light.Skipping(params, name, w.r, t, u, now), want)
}

// client is one that trusts the block of a height.
func (w *world) client(height, now uint64) *light.Client {
	w.t.Helper()
	c, e := light.New(params, name, w.r, w.chain[height], now)
	if e != api.OK || c == nil {
		w.t.Fatalf("P16.3: error %d", e)
	}
	return c
}

// source gives the chain's blocks, and notes the heights that it is asked for.
type source struct {
	*world
	asked []uint64
}

func (s *source) fetch(height uint64) (api.LightBlock, api.Errno) {
	s.asked = append(s.asked, height)
	if height >= uint64(len(s.chain)) {
		return api.LightBlock{}, api.ErrNone
	}
	return s.chain[height], api.OK
}

// wantAsked: these heights were asked for since it was last looked at.
func (s *source) wantAsked(what string, heights ...uint64) {
	s.t.Helper()
	if !slices.Equal(s.asked, heights) {
		s.t.Errorf("%s: fetched are %v, want %v", what, s.asked, heights)
	}
	s.asked = nil
}

// wantTrusted: the client trusts just these heights, the chain's blocks all.
func (w *world) wantTrusted(what string, c *light.Client, heights ...uint64) {
	w.t.Helper()
	if got := c.Heights(); !slices.Equal(got, heights) {
		w.t.Errorf("%s: trusted are %v, want %v", what, got, heights)
	}
	if got := c.Latest(); got != heights[len(heights)-1] {
		w.t.Errorf("%s: the latest is %d, want %d", what, got, heights[len(heights)-1])
	}
	for h := range uint64(len(w.chain)) + 1 {
		u, e := c.Trusted(h)
		if !slices.Contains(heights, h) {
			if e != api.ErrNone || !reflect.DeepEqual(u, api.LightBlock{}) {
				w.t.Errorf("%s: %d is not trusted: %v, error %d", what, h, u, e)
			}
		} else if e != api.OK || !reflect.DeepEqual(u, w.chain[h]) {
			w.t.Errorf("%s: %d is trusted: %v, error %d, want %v", what, h, u, e, w.chain[h])
		}
	}
}

// TestExamples is the chapter's table.
func TestExamples(t *testing.T) {
	w := examples(t)
	l := w.chain
	w.adjacent("1 and 2 at 30", l[1], l[2], 30, api.OK)
	w.adjacent("1 and 2 at 110", l[1], l[2], 110, api.ErrOld)
	w.adjacent("1 and 2 at 14", l[1], l[2], 14, api.ErrAhead)
	w.adjacent("1 and 3", l[1], l[3], 30, api.ErrHeight)
	w.skipping("1 and 2", l[1], l[2], 30, api.ErrHeight)
	w.skipping("1 and 3", l[1], l[3], 30, api.OK)
	w.skipping("1 and 6", l[1], l[6], 60, api.ErrTrust)
	w.skipping("1 and 3 by 2 and 3", l[1], w.block(l[3].Header, l[3].Council, 1), 30, api.ErrQuorum)

	s := &source{world: w}
	c := w.client(1, 15)
	is(t, "P16.4: 9", c.Update(9, 90, s.fetch), api.OK)
	s.wantAsked("P16.4: 9", 9, 5, 3, 4)
	w.wantTrusted("P16.4: 9", c, 1, 3, 4, 5, 9)
	is(t, "P16.4: 7", c.Update(7, 90, s.fetch), api.OK)
	s.wantAsked("P16.4: 7", 7)
	w.wantTrusted("P16.4: 7", c, 1, 3, 4, 5, 7, 9)
	is(t, "P16.4: 2 at 200", c.Update(2, 200, s.fetch), api.ErrOld)
	s.wantAsked("P16.4: 2 at 200", 2)
	is(t, "P16.4: 9 at 0", c.Update(9, 0, s.fetch), api.OK)
	s.wantAsked("P16.4: 9 at 0")
	is(t, "P16.4: 2 at 0", c.Update(2, 0, s.fetch), api.ErrOld)
	is(t, "P16.4: 8 for 9", w.client(1, 15).Update(9, 90, func(uint64) (api.LightBlock, api.Errno) { return l[8], api.OK }), api.ErrHeight)
}
