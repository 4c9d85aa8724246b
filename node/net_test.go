package node_test

import (
	"bytes"
	"math/rand"
	"reflect"
	"slices"
	"strconv"
	"testing"

	"assent/api"
	"assent/chain"
	"assent/council"
	"assent/disk"
	"assent/engine"
	"assent/node"
	"assent/seal"
	"assent/wal"
	"assent/wire"
)

// place is a machine of a net: a node and its model, each with a disk of its own, and what the promises go by.
type place struct {
	addr   api.Addr
	n      *node.Node
	m      *model
	d, md  *disk.Disk
	clock  uint64
	ids    map[uint64]api.Hash // what Block has told
	shown  map[string]int      // own votes and proposals that Out has told
	height uint64              // the greatest that was told
}

type parcel struct {
	from, to int
	b        []byte
}

// net is some machines between which messages are under way, twice: nodes with one book, models with another.
type net struct {
	t      *testing.T
	r      *rand.Rand
	g      api.Genesis
	books  [2]*seal.Registry
	signer [2]map[api.Addr]*seal.Signer
	places []*place
	liars  []api.Addr
	way    []parcel
	counts map[api.Errno]int
}

func newNet(t *testing.T, seed int64, g api.Genesis, honest []api.Addr, liars ...api.Addr) *net {
	t.Helper()
	x := &net{t: t, r: rand.New(rand.NewSource(seed)), g: g, liars: liars, counts: map[api.Errno]int{}}
	for k := range x.books {
		x.books[k] = seal.New()
		x.signer[k] = map[api.Addr]*seal.Signer{}
		for _, a := range g.Accounts {
			x.signer[k][a.Addr], _ = x.books[k].Enter(a.Addr)
		}
	}
	for _, a := range honest {
		p := &place{addr: a, clock: g.Time, ids: map[uint64]api.Hash{}, shown: map[string]int{}}
		p.d, _ = disk.New(limit)
		p.md, _ = disk.New(limit)
		x.places = append(x.places, p)
	}
	for k := range x.places {
		x.open(k)
	}
	return x
}

func (x *net) same(what string, got, want api.Errno) api.Errno {
	x.t.Helper()
	if got != want {
		x.t.Fatalf("%s: error %d, want %d", what, got, want)
	}
	x.counts[got]++
	return got
}

// open opens a node anew on its disk.
func (x *net) open(k int) api.Errno {
	x.t.Helper()
	p := x.places[k]
	var e, want api.Errno
	p.n, e = node.Open(x.g, p.d, x.books[0], x.signer[0][p.addr], p.clock)
	p.m, want = openModel(x.g, p.md, x.books[1], x.signer[1][p.addr], p.clock)
	x.same("N4", e, want)
	if e == api.OK {
		x.look(k)
	}
	return e
}

// sign seals a message in both books.
func (x *net) sign(a api.Addr, msg []byte) (s api.Seal) {
	for k := range x.books {
		s, _ = x.signer[k][a].Sign(msg)
	}
	return s
}

// look holds a node against its model behind a call, and puts on the way what it sends.
func (x *net) look(k int) {
	x.t.Helper()
	p := x.places[k]
	out := p.n.Out()
	if !reflect.DeepEqual(out, p.m.out) {
		x.t.Fatalf("N8: %d: %d messages are to be sent, want %d", k, len(out), len(p.m.out))
	}
	p.m.out = nil
	if p.n.Clock() != p.m.clock || p.n.Dead() != p.m.dead || p.n.View() != p.m.en.View() {
		x.t.Fatalf("N8: %d: clock %d, dead %v, %+v; want %d, %v, %+v", k, p.n.Clock(), p.n.Dead(), p.n.View(), p.m.clock, p.m.dead, p.m.en.View())
	}
	if p.d.Calls() != p.md.Calls() || x.books[0].Count() != x.books[1].Count() {
		x.t.Fatalf("%d: %d calls, %d messages are signed; want %d, %d", k, p.d.Calls(), x.books[0].Count(), p.md.Calls(), x.books[1].Count())
	}
	for _, o := range out {
		x.post(k, o)
	}
	if x.r.Intn(20) == 0 {
		x.lookAll(k)
	}
}

// lookAll holds all that a node tells, and its disk, against its model.
func (x *net) lookAll(k int) {
	x.t.Helper()
	p := x.places[k]
	st := p.n.State()
	if !sameState(st, p.m.st()) || !slices.Equal(p.n.Pool(), p.m.txs.List()) {
		x.t.Fatalf("N8: %d: %+v, want %+v", k, st, p.m.st())
	}
	if !slices.Equal(p.d.Names(), p.md.Names()) {
		x.t.Fatalf("N1: %d: %v, want %v", k, p.d.Names(), p.md.Names())
	}
	for _, name := range p.d.Names() {
		a, _ := p.d.Read(name)
		b, _ := p.md.Read(name)
		_, one, _ := p.d.Size(name)
		_, two, _ := p.md.Size(name)
		if !bytes.Equal(a, b) || one != two {
			x.t.Fatalf("N1: %d: another file %s", k, name)
		}
	}
	p.height = max(p.height, st.Height)
	for h := range p.height + 2 {
		b, c, e := p.n.Block(h)
		b2, c2, want := p.m.ar.Load(h)
		x.same("N8", e, want)
		a, e := p.n.Answer(h)
		a2, want := p.m.answer(h)
		x.same("N8", e, want)
		if !reflect.DeepEqual(b, b2) || !reflect.DeepEqual(c, c2) || !reflect.DeepEqual(a, a2) {
			x.t.Fatalf("N8: %d: another block or answer of %d", k, h)
		}
		if was, there := p.ids[h]; there && (e == api.OK && was != idOf(b) || e == api.ErrNone) {
			x.t.Fatalf("P15.3: %d: another block of %d", k, h)
		}
		if e == api.OK {
			p.ids[h] = idOf(b)
		}
	}
}

// post puts on the way what a node sends, when it has been looked at.
func (x *net) post(k int, o api.Out) {
	x.t.Helper()
	x.wantSealed(x.places[k], o.Bytes)
	for to := range x.places {
		if to != k && (o.To == to || o.To == -1) {
			x.way = append(x.way, parcel{k, to, o.Bytes})
		}
	}
}

// wantSealed is P15.6 and P15.5 of a message.
func (x *net) wantSealed(p *place, b []byte) {
	x.t.Helper()
	m, e := wire.DecodeMsg(b)
	x.same("P15.6", e, api.OK)
	for _, v := range m.Votes {
		msg, _ := wire.VoteBytes(x.g.Chain, v)
		if !x.books[0].Check(v.From, msg, v.Seal) {
			x.t.Fatalf("P15.6: a vote that is not sealed is sent: %+v", v)
		}
		if v.From == p.addr {
			x.wantBrought(p, string(msg), v.Height)
		}
	}
	if m.Kind == api.MsgProposal {
		msg, _ := wire.ProposalBytes(x.g.Chain, m.Proposal)
		if !x.books[0].Check(m.Proposal.From, msg, m.Proposal.Seal) {
			x.t.Fatalf("P15.6: a proposal that is not sealed is sent: %+v", m.Proposal)
		}
		if m.Proposal.From == p.addr {
			x.wantBrought(p, string(msg), m.Proposal.Height)
		}
	}
}

// wantBrought is P15.5: what the synced records of its height bring forth has that vote or proposal of own among it.
func (x *net) wantBrought(p *place, msg string, height uint64) {
	x.t.Helper()
	if p.shown[msg]++; p.shown[msg] > 1 || !p.d.On() {
		return // a disk without power tells nothing; what it keeps is looked at by the models
	}
	file, _ := p.d.Read(logName(height))
	_, synced, _ := p.d.Size(logName(height))
	recs, _ := wal.Scan(file[:synced])
	en, e := engine.New(height, p.m.states[height-1].Council, x.g.Params, p.addr)
	x.same("engine.New", e, api.OK)
	for _, rec := range recs {
		in, _ := wire.DecodeInput(rec)
		dos, _ := en.Take(in)
		for len(dos) > 0 {
			d := dos[0]
			dos = dos[1:]
			back := api.Input{Now: in.Now}
			switch d.Kind {
			case api.DoVote:
				b, _ := wire.VoteBytes(x.g.Chain, d.Vote)
				if string(b) == msg {
					return
				}
				back.Kind, back.Votes = api.InVote, []api.Vote{d.Vote}
			case api.DoPropose:
				b, _ := wire.ProposalBytes(x.g.Chain, d.Proposal)
				if string(b) == msg {
					return
				}
				back.Kind, back.Proposal, back.Block, back.Votes, back.Good = api.InProposal, d.Proposal, d.Block, d.Votes, true
			default:
				continue
			}
			more, _ := en.Take(back)
			dos = append(dos, more...)
		}
	}
	x.t.Fatalf("P15.5: %d has sent what its log of %d does not bring forth: %q", p.addr, height, msg)
}

// hand delivers a message.
func (x *net) hand(y parcel) {
	x.t.Helper()
	p := x.places[y.to]
	if p.n == nil {
		return // what is delivered to one that could not be opened is lost
	}
	wasDead, calls, signed := p.n.Dead(), p.d.Calls(), x.books[0].Count()
	e := x.same("N5", p.n.Deliver(y.from, y.b), p.m.deliver(y.from, y.b))
	if wasDead && (e != api.ErrDead || p.d.Calls() != calls || x.books[0].Count() != signed) {
		x.t.Fatalf("P15.8: a dead node answers %d", e)
	}
	h := p.n.View().Height
	x.look(y.to)
	if m, _ := wire.DecodeMsg(y.b); e == api.OK && m.Kind <= api.MsgPolka && p.n.View().Height == h && !p.n.Dead() && m.Kind > 0 && x.r.Intn(4) == 0 {
		view, calls := p.n.View(), p.d.Calls()
		e := x.same("P15.7", p.n.Deliver(y.from, y.b), p.m.deliver(y.from, y.b))
		if v := x.heightOf(m); v == h && (e != api.OK || p.d.Calls() != calls || p.n.View() != view) {
			x.t.Fatalf("P15.7: error %d, %d calls of the disk", e, p.d.Calls()-calls)
		}
		x.look(y.to)
	}
}

func (x *net) heightOf(m api.Msg) uint64 {
	switch m.Kind {
	case api.MsgProposal:
		return m.Proposal.Height
	case api.MsgVote:
		return m.Votes[0].Height
	}
	return m.Block.Header.Height
}

// tick sets a node's clock on.
func (x *net) tick(k int, by uint64) {
	x.t.Helper()
	p := x.places[k]
	p.clock += by
	if p.n == nil {
		return
	}
	was := p.n.Clock()
	e := x.same("N6", p.n.Tick(p.clock), p.m.tick(p.clock))
	if got := p.n.Clock(); got < was || e == api.OK && got < p.clock {
		x.t.Fatalf("P15.9: %d, it was %d", got, was)
	}
	x.look(k)
}

// restart opens a node anew: behind a crash, or on the disk as it is.
func (x *net) restart(k int) {
	x.t.Helper()
	p := x.places[k]
	if p.n != nil {
		x.lookAll(k)
	}
	if !p.d.On() || x.r.Intn(3) > 0 {
		keep, junk := []int{}, byte(x.r.Intn(3)*x.r.Intn(256))
		for range 40 {
			keep = append(keep, x.r.Intn(120)-40)
		}
		one, e := p.d.Crash(keep, junk)
		two, want := p.md.Crash(keep, junk)
		x.same("Crash", e, want)
		if !reflect.DeepEqual(one, two) {
			x.t.Fatalf("N1: another image is left of %d", k)
		}
		p.d, _ = disk.Mount(one, limit)
		p.md, _ = disk.Mount(two, limit)
	}
	if x.r.Intn(4) == 0 {
		x.arm(k)
	}
	if x.r.Intn(4) == 0 {
		p.clock -= min(p.clock, uint64(x.r.Intn(5))) // clocks of machines that begin anew may be behind
	}
	x.open(k)
}

func (x *net) arm(k int) {
	p := x.places[k]
	tr := api.Trouble{At: 1 + x.r.Intn(8), Kind: api.TrFault}
	if x.r.Intn(2) == 0 {
		tr.Kind, tr.Done = api.TrPower, x.r.Intn(2) == 0
	}
	x.same("Arm", p.d.Arm(tr), p.md.Arm(tr))
}

// submit hands a node a payment, mostly one that can be made.
func (x *net) submit(k int) {
	x.t.Helper()
	p := x.places[k]
	if p.n == nil {
		return
	}
	accounts := p.m.st().Ledger.Accounts
	from := accounts[x.r.Intn(len(x.g.Accounts))]
	y := api.Tx{Kind: 1 + x.r.Intn(4), From: from.Addr, Amount: uint64(x.r.Intn(5)), Fee: uint64(x.r.Intn(4)), Nonce: from.Nonce + uint64(x.r.Intn(3))}
	if slices.Contains(x.liars, y.From) {
		y.Kind = api.TxPay // that they stay few
	}
	switch y.Kind {
	case api.TxPay:
		y.To = api.Addr(1 + x.r.Intn(12))
	case api.TxUnbond:
		y.Amount = 1
	case api.TxFree:
		y.Amount = 0
	}
	if msg, e := wire.TxBytes(x.g.Chain, y); e == api.OK && x.r.Intn(8) > 0 {
		y.Seal = x.sign(y.From, msg)
	}
	x.same("N7", p.n.Submit(y), p.m.submit(y))
	x.look(k)
}

// lie has a liar send something, other things to others.
func (x *net) lie() {
	x.t.Helper()
	a := x.liars[x.r.Intn(len(x.liars))]
	for to, p := range x.places {
		if x.r.Intn(2) == 0 || p.n == nil {
			continue
		}
		if m, ok := x.someLie(a, p); ok {
			if b, e := wire.EncodeMsg(m); e == api.OK {
				x.way = append(x.way, parcel{99, to, b})
			}
		}
	}
}

func (x *net) someLie(a api.Addr, p *place) (api.Msg, bool) {
	view := p.n.View()
	round := max(0, view.Round+x.r.Intn(4)-1)
	if x.r.Intn(12) == 0 {
		round += x.r.Intn(20)
	}
	switch x.r.Intn(6) {
	case 0, 1:
		return x.liedProposal(a, p, round)
	case 2:
		if len(p.m.come) == 0 {
			return api.Msg{}, false
		}
		in := p.m.come[x.r.Intn(len(p.m.come))] // something that was heard, as something else
		m := api.Msg{Kind: 1 + x.r.Intn(3), Proposal: in.Proposal, Block: in.Block, Votes: in.Votes}
		return m, true
	case 3:
		b, c, e := p.m.ar.Load(p.m.st().Height)
		if e != api.OK {
			return api.Msg{}, false
		}
		b.Header.Height, c.Height = b.Header.Height+uint64(x.r.Intn(2)), c.Height+uint64(x.r.Intn(2))
		c.Id = idOf(b)
		return decision(b, c), true
	}
	ids := []api.Hash{none, view.ValidId, view.LockId, {byte(x.r.Intn(3))}}
	v := api.Vote{Kind: 1 + x.r.Intn(2), Height: view.Height, Round: round, Id: ids[x.r.Intn(len(ids))], From: a}
	if v.Kind == api.Precommit && v.Id != none {
		v.Time = uint64(x.r.Intn(2000))
	}
	if msg, e := wire.VoteBytes(x.g.Chain, v); e == api.OK && x.r.Intn(8) > 0 {
		v.Seal = x.sign(a, msg)
	}
	return voted(v), true
}

// liedProposal is one of a liar whose turn it is, of a block that is good or not.
func (x *net) liedProposal(a api.Addr, p *place, round int) (api.Msg, bool) {
	st := p.m.st()
	if who, _ := council.Proposer(st.Council, round); who != a {
		return api.Msg{}, false
	}
	_, last, _ := p.m.ar.Load(st.Height)
	txs := p.m.txs.Pick(st, x.books[1], a)
	b, e := chain.Make(st, x.books[1], txs[:x.r.Intn(len(txs)+1)], nil, last, a)
	if e != api.OK {
		return api.Msg{}, false
	}
	if x.r.Intn(3) == 0 {
		b.Header.Time++
	}
	q := api.Proposal{Height: st.Height + 1, Round: round, ValidRound: -1, Id: idOf(b), From: a}
	msg, _ := wire.ProposalBytes(x.g.Chain, q)
	q.Seal = x.sign(a, msg)
	return api.Msg{Kind: api.MsgProposal, Proposal: q, Block: b}, true
}

// stir has something come to pass.
func (x *net) stir(troubles bool) {
	x.t.Helper()
	k := x.r.Intn(len(x.places))
	switch n := x.r.Intn(40); {
	case n < 28 && len(x.way) > 0:
		at := 0
		if x.r.Intn(3) == 0 {
			at = x.r.Intn(len(x.way))
		}
		y := x.way[at]
		if x.r.Intn(12) > 0 {
			x.way = append(x.way[:at:at], x.way[at+1:]...)
		}
		if x.r.Intn(60) == 0 {
			y.b = bytes.Clone(y.b)
			y.b[x.r.Intn(len(y.b))] ^= byte(1 << x.r.Intn(8))
		}
		if x.r.Intn(15) > 0 {
			x.hand(y)
		}
	case n < 34:
		x.tick(k, uint64(x.r.Intn(4)))
	case n < 36:
		x.submit(k)
	case n < 38 && len(x.liars) > 0:
		x.lie()
	case n == 38 && troubles && x.places[k].d.On():
		x.arm(k)
	case n == 39 && troubles && (x.places[k].n == nil || x.places[k].n.Dead() || x.r.Intn(4) == 0):
		x.restart(k)
	}
	if len(x.way) > 600 {
		x.way = x.way[200:] // lost
	}
}

// calm opens all that are dead, delivers all that is under way, and sets the clocks on.
func (x *net) calm(rounds int) {
	x.t.Helper()
	for k, p := range x.places {
		for p.n == nil || p.n.Dead() {
			x.restart(k)
		}
	}
	for range rounds {
		way := x.way
		x.way = nil
		for _, y := range way {
			x.hand(y)
		}
		for k, p := range x.places {
			for p.n == nil || p.n.Dead() {
				x.restart(k)
			}
			x.tick(k, 1)
		}
	}
}

// agree: what the promises say of all nodes together.
func (x *net) agree() {
	x.t.Helper()
	first := map[uint64]api.Hash{}
	for k, p := range x.places {
		if p.n == nil {
			continue
		}
		x.lookAll(k)
		for h, id := range p.ids {
			if was, there := first[h]; there && was != id {
				x.t.Fatalf("W1: two blocks at %d", h)
			}
			first[h] = id
		}
		wantHonest(x.t, x.g.Chain, x.books[0].Signed(p.addr))
		if one, two := x.books[0].Signed(p.addr), x.books[1].Signed(p.addr); !reflect.DeepEqual(one, two) {
			x.t.Fatalf("P15.10: %d signs other things", k)
		}
		st, _ := chain.Begin(x.g)
		for h := uint64(1); p.d.On() && h <= p.n.State().Height; h++ {
			b, c, _ := p.n.Block(h)
			x.same("P15.2", chain.CheckCert(st.Council, x.books[0], x.g.Chain, c), api.OK)
			next, e := chain.Apply(st, x.books[0], b)
			x.same("P15.2", e, api.OK)
			st = next
		}
		if p.d.On() && !sameState(st, p.n.State()) {
			x.t.Fatalf("P15.2: another state at %d", st.Height)
		}
	}
}

// least is the height that all nodes have come to.
func (x *net) least() uint64 {
	least := uint64(1 << 63)
	for _, p := range x.places {
		least = min(least, p.m.st().Height)
	}
	return least
}

// some is a beginning with members of unlike powers.
func some(r *rand.Rand, members int) api.Genesis {
	g := genesis(members)
	for k := range g.Accounts {
		g.Accounts[k].Bond = 10 + uint64(r.Intn(3)) // one of four is less than a third
	}
	g.Params.Propose, g.Params.Votes, g.Params.Pause, g.Params.Resend = uint64(2+r.Intn(5)), uint64(1+r.Intn(3)), uint64(r.Intn(3)), uint64(3+r.Intn(8))
	g.Params.Age, g.Params.MaxTxs = uint64(1+r.Intn(4)), r.Intn(4)
	g.Params.MinBond = 1 + uint64(r.Intn(6))
	return g
}

// TestNets: nodes among liars, with messages lost, doubled, late and turned round, and crashes at whatever call of the disk, are held against models; and what the promises say holds all the time.
func TestNets(t *testing.T) {
	const nets = 32
	all := make([]*net, nets)
	t.Run("seeds", func(t *testing.T) {
		for seed := range all {
			t.Run(strconv.Itoa(seed), func(t *testing.T) {
				t.Parallel()
				all[seed] = playNet(t, int64(seed))
			})
		}
	})
	heights, counts := uint64(0), map[api.Errno]int{}
	for _, x := range all {
		if x == nil {
			return // it has failed
		}
		heights += x.least()
		for e, n := range x.counts {
			counts[e] += n
		}
	}
	if heights < nets*10 {
		t.Errorf("they come to %d heights in all", heights)
	}
	for _, e := range []api.Errno{api.OK, api.ErrDead, api.ErrFault, api.ErrOff, api.ErrSource, api.ErrSeal, api.ErrInput, api.ErrKnown, api.ErrNone, api.ErrCert} {
		if counts[e] == 0 {
			t.Errorf("error %d was never answered", e)
		}
	}
}

// playNet has much come to pass in a net, in turns with calm times, and at the end a height more be decided.
func playNet(t *testing.T, seed int64) *net {
	t.Helper()
	members := 4 + int(seed%2)
	g := some(rand.New(rand.NewSource(seed)), members)
	honest, liars := []api.Addr{1, 2, 3, 4, 5}[:members], []api.Addr(nil)
	if seed%4 > 0 {
		honest, liars = honest[:members-1], honest[members-1:]
	}
	x := newNet(t, seed, g, honest, liars...)
	for range 5 {
		for range 250 {
			x.stir(seed%3 > 0)
		}
		x.agree()
		x.calm(12)
	}
	was := x.least()
	for k := 0; k < 40 && x.least() <= was; k++ {
		x.calm(20)
	}
	if x.least() <= was && x.areFew() {
		t.Errorf("W5: nobody goes on from %d", was)
	}
	x.agree()
	return x
}

// areFew: have the liars less than a third of each council?
func (x *net) areFew() bool {
	for _, p := range x.places {
		for _, st := range p.m.states {
			power := uint64(0)
			for _, a := range x.liars {
				if k := council.Index(st.Council, a); k >= 0 {
					power += st.Council.Members[k].Power
				}
			}
			if 3*power >= council.Total(st.Council) {
				return false
			}
		}
	}
	return true
}
