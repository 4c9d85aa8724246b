package cluster_test

import (
	"bytes"
	"encoding/binary"
	"fmt"
	"math/rand"
	"reflect"
	"slices"
	"testing"

	"assent/api"
	"assent/blame"
	"assent/chain"
	"assent/digest"
	"assent/disk"
	"assent/node"
	"assent/seal"
	"assent/wal"
	"assent/wire"
)

// parcel is a message that is under way in a model.
type parcel struct {
	from, to int
	form     string
}

// model is the chapter, said a second time in another way: nodes, disks, clocks, one list of parcels. It shares the reading of the chapter, so it shows slips and not misreadings.
type model struct {
	g       api.Genesis
	book    *seal.Registry
	pens    map[api.Addr]*seal.Signer
	addrs   []api.Addr
	nodes   []*node.Node
	disks   []*disk.Disk
	clocks  []uint64
	parcels []parcel
}

func newModel(g api.Genesis, addrs []api.Addr, liars int) (*model, api.Errno) {
	if n := len(addrs); n == 0 || n > 32 || liars < 0 || liars >= n || slices.Contains(addrs, 0) {
		return nil, api.ErrArg
	}
	for k, a := range addrs {
		if slices.Contains(addrs[k+1:], a) {
			return nil, api.ErrArg
		}
	}
	if _, e := chain.Begin(g); e != api.OK {
		return nil, e
	}
	m := &model{g: g, book: seal.New(), pens: map[api.Addr]*seal.Signer{}, addrs: addrs}
	for _, a := range addrs {
		m.pens[a], _ = m.book.Enter(a)
	}
	for k := range len(addrs) - liars {
		d, _ := disk.New(16777216)
		m.nodes, m.disks, m.clocks = append(m.nodes, nil), append(m.disks, d), append(m.clocks, g.Time)
		m.open(k)
	}
	return m, api.OK
}

func (m *model) open(k int) (e api.Errno) {
	m.nodes[k], e = node.Open(m.g, m.disks[k], m.book, m.pens[m.addrs[k]], m.clocks[k])
	m.fetch(k)
	return e
}

// fetch puts under way what a node wants sent.
func (m *model) fetch(k int) {
	for _, o := range m.nodes[k].Out() {
		switch {
		case o.To == -1:
			for j := range m.nodes {
				if j != k {
					m.put(k, j, o.Bytes)
				}
			}
		case o.To >= 0 && o.To < len(m.nodes) && o.To != k:
			m.put(k, o.To, o.Bytes)
		}
	}
}

func (m *model) put(from, to int, form []byte) {
	if len(m.parcels) < 65536 {
		m.parcels = append(m.parcels, parcel{from, to, string(form)})
	}
}

func (m *model) honest(k int) bool { return k >= 0 && k < len(m.nodes) }

func (m *model) peek(at int) (int, int, []byte, api.Errno) {
	if at < 0 || at >= len(m.parcels) {
		return 0, 0, nil, api.ErrArg
	}
	p := m.parcels[at]
	return p.from, p.to, []byte(p.form), api.OK
}

func (m *model) drop(at int) api.Errno {
	if at < 0 || at >= len(m.parcels) {
		return api.ErrArg
	}
	m.parcels = append(m.parcels[:at:at], m.parcels[at+1:]...)
	return api.OK
}

func (m *model) deliver(at int, keep bool) api.Errno {
	if at < 0 || at >= len(m.parcels) {
		return api.ErrArg
	}
	p := m.parcels[at]
	if !keep {
		m.drop(at)
	}
	m.hand(p)
	return api.OK
}

func (m *model) hand(p parcel) {
	if m.nodes[p.to] != nil {
		m.nodes[p.to].Deliver(p.from, []byte(p.form))
		m.fetch(p.to)
	}
}

func (m *model) tick(k int, by uint64) api.Errno {
	if !m.honest(k) {
		return api.ErrNode
	}
	if by > api.MaxTime-m.clocks[k] {
		m.clocks[k] = api.MaxTime
	} else {
		m.clocks[k] += by
	}
	if m.nodes[k] != nil {
		m.nodes[k].Tick(m.clocks[k])
		m.fetch(k)
	}
	return api.OK
}

func (m *model) rounds(n int) api.Errno {
	if n < 0 || n > 65536 {
		return api.ErrArg
	}
	for ; n > 0; n-- {
		now := m.parcels
		m.parcels = nil
		for _, p := range now {
			m.hand(p)
		}
		for k := range m.nodes {
			m.tick(k, 1)
		}
	}
	return api.OK
}

func (m *model) arm(k int, t api.Trouble) api.Errno {
	if !m.honest(k) {
		return api.ErrNode
	}
	return m.disks[k].Arm(t)
}

func (m *model) restart(k int, keep []int, junk byte) api.Errno {
	if !m.honest(k) {
		return api.ErrNode
	}
	im, e := m.disks[k].Crash(keep, junk)
	if e != api.OK {
		panic("a disk crashes once")
	}
	if m.disks[k], e = disk.Mount(im, 16777216); e != api.OK {
		panic("what is left fits")
	}
	return m.open(k)
}

func (m *model) submit(k int, x api.Tx) api.Errno {
	if !m.honest(k) {
		return api.ErrNode
	}
	msg, e := wire.TxBytes(m.g.Chain, x)
	if e != api.OK {
		return e
	}
	if !m.book.Known(x.From) {
		m.pens[x.From], _ = m.book.Enter(x.From)
	}
	if m.pens[x.From] == nil {
		return api.ErrNil
	}
	x.Seal, _ = m.pens[x.From].Sign(msg)
	if m.nodes[k] == nil {
		return api.ErrNil
	}
	e = m.nodes[k].Submit(x)
	m.fetch(k)
	return e
}

func (m *model) lie(liar, to int, x api.Msg) api.Errno {
	if liar < len(m.nodes) || liar >= len(m.addrs) {
		return api.ErrActor
	}
	if to != -1 && !m.honest(to) {
		return api.ErrNode
	}
	a := m.addrs[liar]
	var bad api.Errno
	sign := func(from api.Addr, s api.Seal, msg []byte, e api.Errno) api.Seal {
		if from != a || s != (api.Seal{}) || bad != api.OK {
			return s
		}
		if bad = e; e == api.OK {
			s, _ = m.pens[a].Sign(msg)
		}
		return s
	}
	votes := append([]api.Vote{}, x.Votes...)
	for k, v := range votes {
		msg, e := wire.VoteBytes(m.g.Chain, v)
		votes[k].Seal = sign(v.From, v.Seal, msg, e)
	}
	x.Votes = votes
	if x.Kind == api.MsgProposal {
		msg, e := wire.ProposalBytes(m.g.Chain, x.Proposal)
		x.Proposal.Seal = sign(x.Proposal.From, x.Proposal.Seal, msg, e)
	}
	if x.Kind == api.MsgTx {
		msg, e := wire.TxBytes(m.g.Chain, x.Tx)
		x.Tx.Seal = sign(x.Tx.From, x.Tx.Seal, msg, e)
	}
	if x.Kind == api.MsgEvidence {
		msg, e := wire.VoteBytes(m.g.Chain, x.Evidence.A)
		x.Evidence.A.Seal = sign(x.Evidence.A.From, x.Evidence.A.Seal, msg, e)
		msg, e = wire.VoteBytes(m.g.Chain, x.Evidence.B)
		x.Evidence.B.Seal = sign(x.Evidence.B.From, x.Evidence.B.Seal, msg, e)
	}
	if bad != api.OK {
		return bad
	}
	form, e := wire.EncodeMsg(x)
	if e != api.OK {
		return e
	}
	for j := range m.nodes {
		if to == -1 || to == j {
			m.put(liar, j, form)
		}
	}
	return api.OK
}

func (m *model) dead(k int) bool {
	return m.honest(k) && (m.nodes[k] == nil || m.nodes[k].Dead())
}

// sealOf is what anybody reckons of a message: the first bytes of the digest of the address and the message.
func sealOf(a api.Addr, msg []byte) (s api.Seal) {
	sum := digest.Sum(append(binary.BigEndian.AppendUint64(nil, uint64(a)), msg...))
	copy(s[:], sum[:])
	return s
}

func (m *model) heard(k int, height uint64) ([]api.Vote, api.Errno) {
	if !m.honest(k) {
		return nil, api.ErrNode
	}
	if height < 1 || height > 1<<40 {
		return nil, api.ErrArg
	}
	var all []api.Vote
	file, _ := m.disks[k].Read(fmt.Sprintf("wal-%016x", height))
	records, _ := wal.Scan(file)
	for _, rec := range records {
		in, e := wire.DecodeInput(rec)
		if e != api.OK {
			panic("a record has a form")
		}
		all = append(all, in.Votes...)
	}
	for _, msg := range m.book.Signed(m.addrs[k]) {
		if chain, v, e := wire.ReadVoteBytes(msg); e == api.OK && chain == m.g.Chain && v.Height == height {
			v.Seal = sealOf(m.addrs[k], msg)
			all = append(all, v)
		}
	}
	var once []api.Vote
	for _, v := range all {
		if !slices.Contains(once, v) {
			once = append(once, v)
		}
	}
	return once, api.OK
}

func (m *model) blame() ([]api.Guilt, api.Errno) {
	top := uint64(0)
	for _, n := range m.nodes {
		top = max(top, n.State().Height)
	}
	for h := uint64(1); h <= top; h++ {
		for j, y := range m.nodes {
			for i, x := range m.nodes[:j] {
				b1, c1, e1 := x.Block(h)
				b2, c2, e2 := y.Block(h)
				if e1 != api.OK || e2 != api.OK || idOf(b1) == idOf(b2) {
					continue
				}
				var votes []api.Vote
				for k := range m.nodes {
					l, _ := m.heard(k, h)
					votes = append(votes, l...)
				}
				st, _ := chain.Begin(m.g)
				for g := uint64(1); g < h; g++ {
					b, _, _ := m.nodes[i].Block(g)
					st, _ = chain.Apply(st, m.book, b)
				}
				return blame.Blame(m.g.Chain, st.Council, m.book, c1, c2, votes)
			}
		}
	}
	return nil, api.ErrNone
}

// pair is a cluster and a model that are given the same calls, and held against each other.
type pair struct {
	*world
	m      *model
	counts map[api.Errno]int
}

func newPair(t *testing.T, g api.Genesis, addrs []api.Addr, liars int) *pair {
	t.Helper()
	p := &pair{world: beginWith(t, g, addrs, liars), counts: map[api.Errno]int{}}
	var e api.Errno
	p.m, e = newModel(g, addrs, liars)
	is(t, "the model's New", e, api.OK)
	p.look()
	return p
}

func (p *pair) same(what string, got, want api.Errno) api.Errno {
	p.t.Helper()
	if got != want {
		p.t.Fatalf("%s: error %d, want %d", what, got, want)
	}
	p.counts[got]++
	return got
}

// look holds what is quickly told against the model.
func (p *pair) look() {
	p.t.Helper()
	if got := p.c.Pending(); got != len(p.m.parcels) {
		p.t.Fatalf("C2: %d are under way, want %d", got, len(p.m.parcels))
	}
	for k, n := range p.m.nodes {
		if v := p.view(k); v != n.View() || p.clock(k) != p.m.clocks[k] || p.c.Dead(k) != p.m.dead(k) {
			p.t.Fatalf("C9: %d: %+v, clock %d, dead %v; want %+v, %d, %v", k, v, p.clock(k), p.c.Dead(k), n.View(), p.m.clocks[k], p.m.dead(k))
		}
	}
	if got, want := p.c.Registry().Count(), p.m.book.Count(); got != want {
		p.t.Fatalf("C6, C7: %d messages are signed, want %d", got, want)
	}
}

// lookAll holds all that is told against the model.
func (p *pair) lookAll(r *rand.Rand) {
	p.t.Helper()
	p.look()
	for at, want := range p.m.parcels {
		from, to, form, e := p.c.Peek(at)
		if e != api.OK || from != want.from || to != want.to || string(form) != want.form {
			p.t.Fatalf("C2: at %d: %d to %d, error %d; want %d to %d", at, from, to, e, want.from, want.to)
		}
	}
	for _, a := range append(p.addrs, 0, 99) {
		if !slices.EqualFunc(p.c.Signed(a), p.m.book.Signed(a), bytes.Equal) {
			p.t.Fatalf("C9: %d has signed other messages", a)
		}
	}
	for k, n := range p.m.nodes {
		st := p.state(k)
		txs, e := p.c.Pool(k)
		p.is("C9", e, api.OK)
		if !reflect.DeepEqual(st, n.State()) || !reflect.DeepEqual(txs, n.Pool()) {
			p.t.Fatalf("C9: %d tells another state or pool", k)
		}
		p.lookAt(k, n, 0)
		p.lookAt(k, n, st.Height+1)
		p.lookAt(k, n, 1+uint64(r.Intn(int(st.Height)+1)))
	}
	guilts, e := p.c.Blame()
	want, e2 := p.m.blame()
	if p.same("C11", e, e2); !slices.Equal(guilts, want) {
		p.t.Fatalf("C11: %v, want %v", guilts, want)
	}
}

// lookAt holds what is told of a height against the model.
func (p *pair) lookAt(k int, n *node.Node, height uint64) {
	p.t.Helper()
	b, x, e := p.c.Block(k, height)
	b2, x2, e2 := n.Block(height)
	p.same("C9", e, e2)
	l, e := p.c.Light(k, height)
	l2, e2 := n.Answer(height)
	p.same("C9", e, e2)
	if !reflect.DeepEqual(b, b2) || !reflect.DeepEqual(x, x2) || !reflect.DeepEqual(l, l2) {
		p.t.Fatalf("C9: %d tells another block of %d", k, height)
	}
	votes, e := p.c.Heard(k, height)
	votes2, e2 := p.m.heard(k, height)
	if p.same("C10", e, e2); !slices.Equal(votes, votes2) {
		p.t.Fatalf("C10: %d has heard %v of %d, want %v", k, votes, height, votes2)
	}
}

func (p *pair) deliver(at int, keep bool) {
	p.t.Helper()
	p.same("C3", p.c.Deliver(at, keep), p.m.deliver(at, keep))
	p.look()
}

func (p *pair) drop(at int) {
	p.t.Helper()
	p.same("C3", p.c.Drop(at), p.m.drop(at))
	p.look()
}

func (p *pair) tick(k int, by uint64) {
	p.t.Helper()
	p.same("C4", p.c.Tick(k, by), p.m.tick(k, by))
	p.look()
}

func (p *pair) rounds(n int) {
	p.t.Helper()
	p.same("C8", p.c.Rounds(n), p.m.rounds(n))
	p.look()
}

func (p *pair) arm(k int, t api.Trouble) {
	p.t.Helper()
	p.same("C5", p.c.Arm(k, t), p.m.arm(k, t))
}

func (p *pair) restart(k int, keep []int, junk byte) api.Errno {
	p.t.Helper()
	e := p.same("C5", p.c.Restart(k, keep, junk), p.m.restart(k, keep, junk))
	p.look()
	return e
}

func (p *pair) submit(k int, x api.Tx) {
	p.t.Helper()
	p.same("C6", p.c.Submit(k, x), p.m.submit(k, x))
	p.look()
}

func (p *pair) lie(liar, to int, x api.Msg) api.Errno {
	p.t.Helper()
	e := p.same("C7", p.c.Lie(liar, to, x), p.m.lie(liar, to, x))
	p.look()
	return e
}

func (p *pair) rand() *rand.Rand { return rand.New(rand.NewSource(18)) }
