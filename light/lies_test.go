package light_test

import (
	"math/rand"
	"slices"
	"testing"

	"assent/api"
	"assent/council"
	"assent/light"
	"assent/wire"
)

// net is a chain whose councils change, with other blocks beside it that liars have signed: at each height all that a source may show, the chain's first.
type net struct {
	*world
	rnd   *rand.Rand
	shown [][]api.LightBlock
	signs map[vote]map[api.Addr]bool // who has precommitted what, by the book
}

type vote struct {
	height uint64
	id     api.Hash
}

const (
	tall      = 24
	honest    = 9  // the addresses 1 to 9 sit in councils, and sign the chain's blocks alone, where the liars are few
	liars     = 11 // 10 and 11 sit in councils, too
	strangers = 15 // 12 to 15 sit in no council of the chain
)

// newNet: few: the liars are; else everybody may sign anything.
func newNet(t *testing.T, rnd *rand.Rand, few bool) *net {
	t.Helper()
	n := &net{world: newWorld(t), rnd: rnd, shown: make([][]api.LightBlock, tall+2), signs: map[vote]map[api.Addr]bool{}}
	var councils []api.Council
	now := n.someCouncil(liars)
	for range tall + 1 {
		councils = append(councils, now)
		switch rnd.Intn(8) {
		case 0, 1:
			now = n.someCouncil(liars)
		case 2, 3:
			now = api.Council{Members: slices.Clone(now.Members)}
			now.Members[rnd.Intn(len(now.Members))].Power = 1 + uint64(rnd.Intn(9))
		}
	}
	n.growBy(councils)
	for h := uint64(1); h <= tall; h++ {
		n.shown[h] = append(n.shown[h], n.chain[h])
		for range rnd.Intn(4) {
			n.shown[h] = append(n.shown[h], n.lie(h, councils, few))
		}
	}
	n.readBook()
	return n
}

// someCouncil has members up to an address; who is no stranger and may lie has little power.
func (n *net) someCouncil(most api.Addr) (c api.Council) {
	for len(c.Members) < 3 {
		c = api.Council{}
		for a := api.Addr(1); a <= most; a++ {
			if n.rnd.Intn(2) == 0 {
				continue
			}
			p := 2 + uint64(n.rnd.Intn(5))
			if a > honest && a <= liars {
				p = 1
			}
			c.Members = append(c.Members, api.Member{Addr: a, Power: p, Priority: int64(n.rnd.Intn(5) - 2)})
		}
	}
	return c
}

// growBy makes the chain, each block signed by a quorum at least.
func (n *net) growBy(councils []api.Council) {
	n.t.Helper()
	last := api.Header{}
	for k := range tall {
		c := councils[k]
		h := api.Header{Chain: name, Height: last.Height + 1, Time: last.Time + 5 + uint64(n.rnd.Intn(9)), Proposer: 1, Council: digestOf(n.t, c), Next: digestOf(n.t, councils[k+1])}
		if k > 0 {
			h.Last = idOf(n.t, last)
		}
		u := n.block(h, c, api.Addr(1+n.rnd.Intn(liars)))
		if modelCheck(c, n.r, name, u.Cert) != api.OK {
			u = n.block(h, c)
		}
		n.chain, last = append(n.chain, u), h
	}
}

// lie is a block beside the chain's, of a height.
func (n *net) lie(height uint64, councils []api.Council, few bool) api.LightBlock {
	n.t.Helper()
	u := n.chain[height]
	h, c := u.Header, u.Council
	h.State[0] = byte(1 + n.rnd.Intn(255))
	if n.rnd.Intn(3) == 0 {
		h.Time += uint64(n.rnd.Intn(20))
	}
	if n.rnd.Intn(2) == 0 && height > 1 {
		ahead := n.shown[height-1]
		over := ahead[n.rnd.Intn(len(ahead))]
		h.Last = idOf(n.t, over.Header)
	}
	if n.rnd.Intn(2) == 0 {
		c = n.someCouncil(strangers)
		h.Council = digestOf(n.t, c)
	}
	if n.rnd.Intn(2) == 0 {
		h.Next = digestOf(n.t, n.someCouncil(strangers))
	}
	if few {
		if n.rnd.Intn(2) == 0 { // a council that liars and strangers alone can sign for
			c = api.Council{}
			for a := api.Addr(honest - 1); a <= strangers; a++ {
				c.Members = append(c.Members, api.Member{Addr: a, Power: 1})
			}
			h.Council = digestOf(n.t, c)
		}
		return n.block(h, c, 1, 2, 3, 4, 5, 6, 7, 8, 9)
	}
	return n.block(h, c, api.Addr(1+n.rnd.Intn(strangers)))
}

// readBook finds who has signed what, whatever was shown.
func (n *net) readBook() {
	n.t.Helper()
	for a := api.Addr(1); a <= strangers; a++ {
		for _, msg := range n.r.Signed(a) {
			_, v, e := wire.ReadVoteBytes(msg)
			if e != api.OK || v.From != a || v.Kind != api.Precommit {
				n.t.Fatalf("%v, error %d", v, e)
			}
			k := vote{v.Height, v.Id}
			if n.signs[k] == nil {
				n.signs[k] = map[api.Addr]bool{}
			}
			n.signs[k][a] = true
		}
	}
}

// power is what those of a council have who have precommitted something.
func (n *net) power(c api.Council, k vote) (sum uint64) {
	for _, m := range c.Members {
		if n.signs[k][m.Addr] {
			sum += m.Power
		}
	}
	return sum
}

// isSafe is the premise of P16.8, of all councils of the chain.
func (n *net) isSafe() bool {
	for k := range n.signs {
		if k.id == idOf(n.t, n.chain[k.height].Header) {
			continue
		}
		for _, u := range n.chain[1:] {
			if 3*n.power(u.Council, k) >= council.Total(u.Council) {
				return false
			}
		}
	}
	return true
}

// isLink: enough have precommitted u for one who trusts t.
func (n *net) isLink(t, u api.LightBlock) bool {
	k := vote{u.Header.Height, idOf(n.t, u.Header)}
	if u.Header.Height == t.Header.Height+1 {
		return digestOf(n.t, u.Council) == t.Header.Next && 3*n.power(u.Council, k) > 2*council.Total(u.Council)
	}
	return 3*n.power(t.Council, k) > council.Total(t.Council)
}

// someFetch is a source: of each height it shows one thing, which may be the chain's block, a lie, nothing, or what belongs to another height.
func (n *net) someFetch() func(uint64) (api.LightBlock, api.Errno) {
	faith, seed := n.rnd.Intn(4), n.rnd.Int63()
	return func(h uint64) (api.LightBlock, api.Errno) {
		r := rand.New(rand.NewSource(seed + int64(h)))
		if h > tall || faith == 0 && r.Intn(6) == 0 {
			return n.chain[1], api.ErrSource
		}
		if faith == 1 && r.Intn(12) == 0 {
			return n.chain[1+h%tall], api.OK
		}
		if faith == 3 {
			return n.chain[h], api.OK
		}
		return n.shown[h][r.Intn(len(n.shown[h]))], api.OK
	}
}

// play makes Updates of one client, each held against the model and against what follows of it.
func (n *net) play(updates int) (c *light.Client, lets int) {
	n.t.Helper()
	p := api.Params{Trusting: 60 + uint64(n.rnd.Intn(300)), Drift: uint64(n.rnd.Intn(30))}
	first := n.chain[1+n.rnd.Intn(5)]
	clock := first.Header.Time + uint64(n.rnd.Intn(9))
	c, e := light.New(p, name, n.r, first, clock)
	m, _ := newModel(p, name, n.r, first, clock)
	is(n.t, "P16.3", e, api.OK)
	for range updates {
		height, now, fetch := uint64(1+n.rnd.Intn(tall+1)), clock+uint64(n.rnd.Intn(24))-min(clock, 6), n.someFetch()
		clock = max(clock, now)
		was := c.Heights()
		var asked []uint64
		noting := func(h uint64) (api.LightBlock, api.Errno) { asked = append(asked, h); return fetch(h) }
		got, gotAsked := c.Update(height, now, noting), asked
		asked = nil
		if want := m.update(height, now, noting); got != want || !slices.Equal(gotAsked, asked) {
			n.t.Fatalf("P16.4: %d at %d: error %d, fetched %v; want %d, %v", height, now, got, gotAsked, want, asked)
		}
		wantLike(n.t, c, m)
		n.wantFetches(was, height, asked)
		if got == api.OK {
			lets += n.wantLinks(p, c, was, height, clock)
		} else if !slices.Equal(c.Heights(), was) {
			n.t.Fatalf("P16.9: %v, it was %v", c.Heights(), was)
		}
	}
	return c, lets
}

// wantFetches is P16.7.
func (n *net) wantFetches(was []uint64, height uint64, asked []uint64) {
	n.t.Helper()
	from := below(was, height)
	for k, h := range asked {
		if k == 0 && h != height || k > 0 && (h <= from || h >= height) || slices.Contains(asked[:k], h) {
			n.t.Fatalf("P16.7: for %d, from %d: fetched are %v", height, from, asked)
		}
	}
}

func below(heights []uint64, height uint64) (greatest uint64) {
	for _, h := range heights {
		if h < height {
			greatest = max(greatest, h)
		}
	}
	return greatest
}

// wantLinks: each block that is newly trusted was let from the trusted one below it, by enough of those whom that one trusts (P16.6, P16.8).
func (n *net) wantLinks(p api.Params, c *light.Client, was []uint64, height, clock uint64) (lets int) {
	n.t.Helper()
	t, _ := c.Trusted(below(was, height))
	for _, h := range c.Heights() {
		if slices.Contains(was, h) {
			continue
		}
		if h > height || h <= t.Header.Height {
			n.t.Fatalf("P16.4: %d is trusted behind an Update of %d", h, height)
		}
		u, _ := c.Trusted(h)
		way := ways[min(h-t.Header.Height, 2)-1]
		is(n.t, "P16.6", way.look(p, name, n.r, t, u, clock), api.OK)
		if !n.isLink(t, u) {
			n.t.Fatalf("P16.8: %d is let from %d", h, t.Header.Height)
		}
		t = u
		lets++
	}
	if lets > 0 && t.Header.Height != height {
		n.t.Fatalf("P16.4: %d is not trusted", height)
	}
	return lets
}

// TestLies: whatever sources show, while the liars are few only the chain's blocks come to be trusted.
func TestLies(t *testing.T) {
	rnd := rand.New(rand.NewSource(162))
	safe, lets := 0, 0
	for range 100 {
		n := newNet(t, rnd, true)
		if !n.isSafe() {
			continue
		}
		safe++
		for range 4 {
			c, k := n.play(25)
			lets += k
			for _, h := range c.Heights() {
				if u, _ := c.Trusted(h); u.Header != n.chain[h].Header {
					t.Fatalf("P16.8, W7: the block %d is not the chain's", h)
				}
			}
		}
	}
	if safe < 30 || lets < 1000 {
		t.Errorf("%d nets were safe, %d blocks were let", safe, lets)
	}
}

// TestManyLiars: where the premise does not hold others may come to be trusted, yet never without their links.
func TestManyLiars(t *testing.T) {
	rnd := rand.New(rand.NewSource(163))
	wrong, lets := 0, 0
	for range 40 {
		n := newNet(t, rnd, false)
		for range 4 {
			c, k := n.play(25)
			lets += k
			for _, h := range c.Heights() {
				if u, _ := c.Trusted(h); u.Header != n.chain[h].Header {
					wrong++
				}
			}
		}
	}
	if wrong < 50 || lets < 500 {
		t.Errorf("%d blocks beside the chain were trusted, of %d", wrong, lets)
	}
}
