package blame_test

import (
	"math/rand"
	"slices"
	"testing"

	"assent/api"
	"assent/blame"
	"assent/council"
	"assent/engine"
	"assent/wire"
)

// machine is an honest member: an engine, and the votes that its log would show.
type machine struct {
	*engine.Engine
	addr    api.Addr
	side    int // liars show each side what serves it
	log     []api.Vote
	waits   []api.Do
	decided api.Cert
}

// fork is a height at which liars try to have two blocks decided.
type fork struct {
	*world
	*rand.Rand
	honest  []*machine
	liars   []api.Addr
	careful bool // the liars never vote twice: they only forget
	blocks  []api.Block
	sent    [2][]api.Input // what the honest ones of a side have sent
	signed  []api.Vote     // by anybody
}

func newFork(t *testing.T, seed int64) *fork {
	r := rand.New(rand.NewSource(seed))
	var powers []uint64
	for range 4 + r.Intn(5) {
		powers = append(powers, uint64(1+r.Intn(3)))
	}
	f := &fork{world: newWorld(t, powers...), Rand: r, careful: seed%3 > 0}
	p := api.Params{Propose: 3, Votes: 2}
	most := council.Total(f.c)*2/3 - uint64(r.Intn(2)) // of the liars' power
	if seed%16 == 0 {
		most = council.Total(f.c) * 5 / 6
	}
	for _, k := range r.Perm(len(powers)) {
		a := api.Addr(k + 1)
		if f.liarsPower()+powers[k] <= most {
			f.liars = append(f.liars, a)
			continue
		}
		e, refusal := engine.New(height, f.c, p, a)
		is(t, "engine.New", refusal, api.OK)
		f.honest = append(f.honest, &machine{Engine: e, addr: a, side: len(f.honest) % 2})
	}
	return f
}

// liarsPower is what the liars have together.
func (f *fork) liarsPower() (sum uint64) {
	for _, a := range f.liars {
		sum += f.c.Members[a-1].Power
	}
	return sum
}

func idOf(b api.Block) api.Hash {
	id, _ := wire.BlockId(b.Header)
	return id
}

func (f *fork) newBlock(by api.Addr) api.Block {
	b := api.Block{Header: api.Header{Chain: name, Height: height, Time: uint64(len(f.blocks) + 1), Proposer: by}}
	f.blocks = append(f.blocks, b)
	return b
}

// cast is a vote, sealed; all know of it. A careful liar's is the one that it has given already.
func (f *fork) cast(v api.Vote) api.Vote {
	k := slices.IndexFunc(f.signed, func(o api.Vote) bool { return o.From == v.From && o.Kind == v.Kind && o.Round == v.Round })
	if k >= 0 && f.careful && slices.Contains(f.liars, v.From) {
		return f.signed[k]
	}
	v = f.sign(name, v)
	if !slices.Contains(f.signed, v) {
		f.signed = append(f.signed, v)
	}
	return v
}

// take hands a machine an input, and works off what it asks for, as a node does.
func (f *fork) take(m *machine, in api.Input) {
	queue := []api.Input{in}
	for len(queue) > 0 {
		in, queue = queue[0], queue[1:]
		m.log = append(m.log, in.Votes...)
		dos, _ := m.Take(in)
		for _, do := range dos {
			switch do.Kind {
			case api.DoVote:
				v := api.Input{Kind: api.InVote, Now: in.Now, Votes: []api.Vote{f.cast(do.Vote)}}
				f.sent[m.side], queue = append(f.sent[m.side], v), append(queue, v)
			case api.DoPropose:
				p := api.Input{Kind: api.InProposal, Now: in.Now, Proposal: do.Proposal, Block: do.Block, Votes: do.Votes, Good: true}
				f.sent[m.side], queue = append(f.sent[m.side], p), append(queue, p)
			case api.DoBuild:
				queue = append(queue, api.Input{Kind: api.InBuilt, Now: in.Now, Round: do.Round, Block: f.newBlock(m.addr)})
			case api.DoTimeout:
				m.waits = append(m.waits, do)
			case api.DoDecide:
				m.decided = do.Cert
			}
		}
	}
}

// quorums are the rounds and ids for which a quorum has signed, with the votes by rising member.
func (f *fork) quorums(kind int) (list [][]api.Vote) {
	type key struct {
		round int
		id    api.Hash
	}
	by := map[key][]api.Vote{}
	var keys []key
	for _, v := range f.signed {
		if k := (key{v.Round, v.Id}); v.Kind == kind && v.Id != none && !slices.ContainsFunc(by[k], func(o api.Vote) bool { return o.From == v.From }) {
			if by[k] == nil {
				keys = append(keys, k)
			}
			by[k] = append(by[k], v)
		}
	}
	for _, k := range keys {
		var sum uint64
		for _, v := range by[k] {
			sum += f.c.Members[v.From-1].Power
		}
		if sum >= council.Quorum(f.c) {
			slices.SortFunc(by[k], func(v, w api.Vote) int { return int(v.From) - int(w.From) })
			list = append(list, by[k])
		}
	}
	return list
}

func (f *fork) block(id api.Hash) (api.Block, bool) {
	k := slices.IndexFunc(f.blocks, func(b api.Block) bool { return idOf(b) == id })
	if k < 0 {
		return api.Block{}, false
	}
	return f.blocks[k], true
}

// lies has some liars vote as it serves a machine, or anyhow. Careful ones let one side decide first, and show the other no more than what they have signed by then.
func (f *fork) lies(m *machine, now uint64) {
	if f.careful && m.side == 1 && !f.hasDecided(0) {
		for _, v := range f.signed {
			if v.Round == m.View().Round && slices.Contains(f.liars, v.From) {
				f.take(m, api.Input{Kind: api.InVote, Now: now, Votes: []api.Vote{v}})
			}
		}
		return
	}
	v := api.Vote{Kind: 1 + f.Intn(2), Height: height, Round: m.View().Round}
	for _, o := range f.signed { // what it has prevoted itself
		if o.From == m.addr && o.Kind == api.Prevote && o.Round == v.Round {
			v.Id = o.Id
		}
	}
	if f.Intn(6) == 0 && len(f.blocks) > 0 {
		v.Id = idOf(f.blocks[f.Intn(len(f.blocks))])
	}
	if f.Intn(12) == 0 {
		v.Round = f.Intn(v.Round + 2)
	}
	if v.Kind == api.Precommit && v.Id != none {
		v.Time = 5
	}
	for _, v.From = range f.liars {
		if f.Intn(8) > 0 {
			f.take(m, api.Input{Kind: api.InVote, Now: now, Votes: []api.Vote{f.cast(v)}})
		}
	}
}

func (f *fork) hasDecided(side int) bool {
	return slices.ContainsFunc(f.honest, func(m *machine) bool { return m.side == side && m.decided.Height != 0 })
}

// proposes has a liar propose, if it is its turn: a new block, or an old one with its polka or without.
func (f *fork) proposes(m *machine, now uint64) {
	p := api.Proposal{Height: height, Round: m.View().Round + f.Intn(2), ValidRound: -1}
	p.From, _ = council.Proposer(f.c, p.Round)
	if !slices.Contains(f.liars, p.From) {
		return
	}
	in := api.Input{Kind: api.InProposal, Now: now, Good: true}
	if polkas := f.quorums(api.Prevote); len(polkas) > 0 && f.Intn(2) == 0 {
		polka := polkas[f.Intn(len(polkas))]
		if polka[0].Round < p.Round {
			in.Block, _ = f.block(polka[0].Id)
			p.ValidRound, in.Votes = polka[0].Round, polka
		}
	}
	if p.ValidRound < 0 {
		in.Block = f.newBlock(p.From)
		if f.Intn(3) == 0 {
			in.Block = f.blocks[f.Intn(len(f.blocks))]
		}
	}
	p.Id = idOf(in.Block)
	in.Proposal = p
	f.take(m, in)
}

func (f *fork) shows(m *machine, now uint64) {
	if polkas := f.quorums(api.Prevote); len(polkas) > 0 {
		polka := polkas[f.Intn(len(polkas))]
		b, _ := f.block(polka[0].Id)
		f.take(m, api.Input{Kind: api.InPolka, Now: now, Block: b, Votes: polka, Good: true})
	}
}

// step is one thing that comes to pass at a machine.
func (f *fork) step(m *machine, now uint64) {
	side := m.side
	switch n := f.Intn(16); {
	case n < 8:
		if n == 0 && (!f.careful || f.Intn(4) == 0) {
			side = 1 - side
		}
		if l := f.sent[side]; len(l) > 0 {
			in := l[max(0, len(l)-1-f.Intn(12))]
			in.Now = now
			f.take(m, in)
		}
	case n < 12:
		f.lies(m, now)
	case n < 14:
		f.proposes(m, now)
	case n < 15:
		f.shows(m, now)
	case len(m.waits) > 0:
		k := f.Intn(len(m.waits))
		do := m.waits[k]
		m.waits = slices.Delete(m.waits, k, k+1)
		f.take(m, api.Input{Kind: api.InTimeout, Now: now, Step: do.Step, Round: do.Round})
	}
}

// play lets the height go on for a while.
func (f *fork) play() {
	for _, m := range f.honest {
		f.take(m, api.Input{Kind: api.InStart})
	}
	for now := range uint64(200 * len(f.honest)) {
		f.step(f.honest[f.Intn(len(f.honest))], now)
	}
}

// certs are all certificates that can be made of what was signed, with whichever marks.
func (f *fork) certs() (list []api.Cert) {
	for _, votes := range f.quorums(api.Precommit) {
		x := api.Cert{Height: height, Round: votes[0].Round, Id: votes[0].Id}
		for _, v := range votes {
			x.Marks = append(x.Marks, api.Mark{Index: int(v.From) - 1, Time: v.Time, Seal: v.Seal})
		}
		list = append(list, x)
	}
	for _, m := range f.honest {
		if m.decided.Height != 0 {
			list = append(list, m.decided)
		}
	}
	return list
}

// shown is what the honest logs hold; with more, if liars show what they like.
func (f *fork) shown(more bool) (votes []api.Vote) {
	for _, m := range f.honest {
		votes = append(votes, m.log...)
	}
	if more {
		for _, a := range f.liars {
			for range 30 {
				v := api.Vote{Kind: 1 + f.Intn(2), Height: height, Round: f.Intn(5), Id: id(byte(f.Intn(2))), From: a}
				if len(f.blocks) > 0 && f.Intn(3) > 0 {
					v.Id = idOf(f.blocks[f.Intn(len(f.blocks))])
				}
				votes = append(votes, f.sign(name, v))
			}
		}
		for range 20 { // and say what others should have voted
			v := f.signed[f.Intn(len(f.signed))]
			v.From, v.Round = f.honest[f.Intn(len(f.honest))].addr, f.Intn(5)
			votes = append(votes, v)
		}
	}
	f.Shuffle(len(votes), func(k, l int) { votes[k], votes[l] = votes[l], votes[k] })
	return votes
}

// TestHonest is P17.1 and P17.2: engines that keep the rules, and liars who do what they can to have two blocks decided. No honest one is ever named, and no pair of an honest one's votes is a guilt; and more than a third is named, if the liars have less than two thirds.
func TestHonest(t *testing.T) {
	var forks, decided, many int
	kinds := map[int]int{}
	for seed := range int64(500) {
		f := newFork(t, seed)
		if len(f.honest) == 0 || len(f.liars) == 0 {
			continue
		}
		f.play()
		votes := f.shown(!f.careful)
		certs := f.certs()
		total, few := council.Total(f.c), 3*f.liarsPower() < 2*council.Total(f.c)
		for k, a := range certs {
			for _, b := range certs[k+1:] {
				if a.Id == b.Id {
					continue
				}
				got := f.blame("P17.1", a, b, votes)
				for _, g := range got {
					if !slices.Contains(f.liars, g.Addr) {
						t.Fatalf("P17.1: seed %d: an honest one: %s", seed, tell(got))
					}
					kinds[g.Kind]++
				}
				if p := blame.Power(f.c, got); few && 3*p <= total {
					t.Fatalf("P17.2: seed %d: %d of %d:%s", seed, p, total, tell(got))
				}
				if !few {
					many++
				}
				forks++
			}
		}
		for _, m := range f.honest {
			f.wantGuiltless(m, votes)
			for _, o := range f.honest {
				if m.decided.Height != 0 && o.decided.Height != 0 && m.decided.Id != o.decided.Id {
					decided++
				}
			}
		}
	}
	t.Logf("%d forks, %d of which with many liars; %d honest pairs apart; %v", forks, many, decided, kinds)
	if forks < 200 || decided < 50 || many < 20 || kinds[api.GuiltTwice] < 100 || kinds[api.GuiltForget] < 100 {
		t.Errorf("too little has come about: %d forks, %d with many liars, %d honest pairs apart, %v", forks, many, decided, kinds)
	}
}

// wantGuiltless: no two votes that an honest member has signed are a guilt.
func (f *fork) wantGuiltless(m *machine, votes []api.Vote) {
	f.t.Helper()
	var mine []api.Vote
	for _, v := range f.signed {
		if v.From == m.addr {
			mine = append(mine, v)
		}
	}
	for _, a := range mine {
		for _, b := range mine {
			for kind := range 4 {
				if blame.Guilty(name, f.c, f.r, api.Guilt{Addr: m.addr, Kind: kind, A: a, B: b}, votes) == api.OK {
					f.t.Fatalf("P17.1: an honest one is guilty: %s %s", tellVote(a), tellVote(b))
				}
			}
		}
	}
}
