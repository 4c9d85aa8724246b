package blame_test

import (
	"bytes"
	"math/rand"
	"slices"
	"testing"

	"assent/api"
	"assent/blame"
	"assent/chain"
	"assent/council"
	"assent/seal"
	"assent/wire"
)

// The chapter by another hand: no maps, every vote held against every other one.

// modelCounts are the votes that count, at a height.
func modelCounts(name string, c api.Council, r *seal.Registry, height uint64, votes []api.Vote) (list []api.Vote) {
	for _, v := range votes {
		if wire.PlainVote(v) != api.OK || v.Height != height || council.Index(c, v.From) < 0 {
			continue
		}
		if msg, e := wire.VoteBytes(name, v); e == api.OK && r.Check(v.From, msg, v.Seal) {
			list = append(list, v)
		}
	}
	return list
}

func modelPolka(c api.Council, counting []api.Vote, round int, id api.Hash) bool {
	var sum, total uint64
	for _, m := range c.Members {
		total += m.Power
		if slices.ContainsFunc(counting, func(v api.Vote) bool {
			return v.Kind == api.Prevote && v.Round == round && v.Id == id && v.From == m.Addr
		}) {
			sum += m.Power
		}
	}
	return 3*sum > 2*total
}

func modelReason(c api.Council, counting []api.Vote, a, b api.Vote) bool {
	for round := a.Round; round < b.Round; round++ {
		if modelPolka(c, counting, round, b.Id) {
			return true
		}
	}
	return false
}

// less goes by the first of two rows that is unlike in both.
func less(p, q [][]byte) bool {
	for k := range p {
		if d := bytes.Compare(p[k], q[k]); d != 0 {
			return d < 0
		}
	}
	return false
}

func number(n uint64) []byte {
	return []byte{byte(n >> 56), byte(n >> 48), byte(n >> 40), byte(n >> 32), byte(n >> 24), byte(n >> 16), byte(n >> 8), byte(n)}
}

// modelBest is the guilt with the least key.
func modelBest(best api.Guilt, g api.Guilt, key func(g api.Guilt) [][]byte) api.Guilt {
	if best.Kind == 0 || less(key(g), key(best)) {
		return g
	}
	return best
}

func modelTwice(counting []api.Vote) (best api.Guilt) {
	for _, a := range counting {
		for _, b := range counting {
			if a.Kind == b.Kind && a.Round == b.Round && bytes.Compare(a.Id[:], b.Id[:]) < 0 {
				best = modelBest(best, twice(a, b), func(g api.Guilt) [][]byte {
					return [][]byte{number(uint64(g.A.Round)), number(uint64(g.A.Kind)), g.A.Id[:], g.B.Id[:], number(g.A.Time), number(g.B.Time)}
				})
			}
		}
	}
	return best
}

func modelForget(c api.Council, mine, counting []api.Vote) (best api.Guilt) {
	for _, a := range mine {
		for _, b := range mine {
			if a.Kind == api.Precommit && b.Kind == api.Prevote && a.Id != none && b.Id != none && a.Id != b.Id && b.Round > a.Round && !modelReason(c, counting, a, b) {
				best = modelBest(best, forget(a, b), func(g api.Guilt) [][]byte {
					return [][]byte{number(uint64(g.A.Round)), number(uint64(g.B.Round)), g.A.Id[:], g.B.Id[:], number(g.A.Time)}
				})
			}
		}
	}
	return best
}

func modelBlame(name string, c api.Council, r *seal.Registry, a, b api.Cert, votes []api.Vote) (told []api.Guilt, e api.Errno) {
	for _, x := range []api.Cert{a, b} {
		if e := chain.CheckCert(c, r, name, x); e != api.OK {
			return nil, e
		}
	}
	if a.Height != b.Height || a.Id == b.Id {
		return nil, api.ErrSame
	}
	counting := append(modelCounts(name, c, r, a.Height, votes), votesOf(c, a, b)...)
	for _, m := range c.Members {
		var mine []api.Vote
		for _, v := range counting {
			if v.From == m.Addr {
				mine = append(mine, v)
			}
		}
		if g := modelTwice(mine); g.Kind != 0 {
			told = append(told, g)
		} else if g := modelForget(c, mine, counting); g.Kind != 0 {
			told = append(told, g)
		}
	}
	return told, api.OK
}

func modelGuilty(name string, c api.Council, r *seal.Registry, g api.Guilt, votes []api.Vote) api.Errno {
	if e := council.Sound(c); e != api.OK {
		return e
	}
	if council.Index(c, g.Addr) < 0 {
		return api.ErrMember
	}
	if g.Kind != api.GuiltTwice && g.Kind != api.GuiltForget {
		return api.ErrArg
	}
	if e := wire.PlainVote(g.A); e != api.OK {
		return e
	}
	if e := wire.PlainVote(g.B); e != api.OK {
		return e
	}
	pair := g.A.From == g.Addr && g.B.From == g.Addr && g.A.Height == g.B.Height
	if g.Kind == api.GuiltTwice {
		pair = pair && g.A.Kind == g.B.Kind && g.A.Round == g.B.Round && bytes.Compare(g.A.Id[:], g.B.Id[:]) < 0
	} else {
		pair = pair && g.A.Kind == api.Precommit && g.B.Kind == api.Prevote && g.A.Id != none && g.B.Id != none && g.A.Id != g.B.Id && g.B.Round > g.A.Round
	}
	if !pair {
		return api.ErrPair
	}
	if len(modelCounts(name, c, r, g.A.Height, []api.Vote{g.A, g.B})) != 2 {
		return api.ErrSeal
	}
	if g.Kind == api.GuiltForget && modelReason(c, modelCounts(name, c, r, g.A.Height, votes), g.A, g.B) {
		return api.ErrPair
	}
	return api.OK
}

// play is a world that is drawn by lot, with votes and certificates of few rounds and ids, so that much comes together.
type play struct {
	*world
	*rand.Rand
	rounds, ids int
}

func newPlay(t *testing.T, seed int64) *play {
	r := rand.New(rand.NewSource(seed))
	var powers []uint64
	for range 1 + r.Intn(7) {
		powers = append(powers, uint64(1+r.Intn(4)))
	}
	return &play{newWorld(t, powers...), r, 1 + r.Intn(5), 1 + r.Intn(4)}
}

// who is a member, or now and then a stranger.
func (p *play) who() api.Addr {
	if p.Intn(20) == 0 {
		return api.Addr(len(p.c.Members) + 1 + p.Intn(2))
	}
	return api.Addr(1 + p.Intn(len(p.c.Members)))
}

// some is a vote, mostly a good one; the votes of those from steady on are of one id a round and kind, so that they may forget.
func (p *play) some(steady api.Addr) api.Vote {
	a := api.Vote{Kind: 1 + p.Intn(2), Height: height, Round: p.Intn(p.rounds), Id: id(byte(p.Intn(p.ids + 1))), From: p.who()}
	if a.From >= steady {
		a.Id = id(byte((a.Round*7 + a.Kind*5 + int(a.From)*3) % (p.ids + 1)))
	}
	if a.Kind == api.Precommit && a.Id != none {
		a.Time = uint64(p.Intn(3))
	}
	switch p.Intn(30) {
	case 0:
		a.Height += uint64(p.Intn(3)) - 1
	case 1:
		a.Time++
	case 2:
		return a // not sealed
	case 3:
		return p.sign("d", a)
	case 4:
		s := p.sign(name, a)
		s.Round++
		return s
	}
	return p.sign(name, a)
}

func (p *play) list(steady api.Addr) (votes []api.Vote) {
	for range p.Intn(60) {
		votes = append(votes, p.some(steady))
	}
	for range p.Intn(3) { // a polka, perhaps
		round, n := p.Intn(p.rounds), byte(p.Intn(p.ids+1))
		for _, m := range p.c.Members {
			if m.Addr < steady && p.Intn(6) > 0 {
				votes = append(votes, p.prevote(round, id(n), m.Addr))
			}
		}
	}
	p.Shuffle(len(votes), func(k, l int) { votes[k], votes[l] = votes[l], votes[k] })
	return votes
}

// someCert is mostly a good one.
func (p *play) someCert() api.Cert {
	var by []api.Addr
	for _, m := range p.c.Members {
		if p.Intn(5) > 0 {
			by = append(by, m.Addr)
		}
	}
	x := p.cert(p.Intn(p.rounds), id(byte(1+p.Intn(p.ids))), by...)
	switch n := p.Intn(40); {
	case n == 0:
		x = p.certAt(6, x.Round, x.Id, by...)
	case n == 1 && len(by) > 0:
		x.Marks[0].Seal[2]++
	case n == 2:
		x.Id = none
	case n == 3 && len(by) > 0:
		x.Marks[len(by)-1].Index = len(p.c.Members)
	}
	return x
}

// TestModel: every answer is what the other hand comes to, and what follows of each holds (P17.3 to P17.6).
func TestModel(t *testing.T) {
	counts := map[api.Errno]int{}
	kinds := map[int]int{}
	var free, nobody int
	for seed := range int64(6000) {
		p := newPlay(t, seed)
		steady := api.Addr(p.Intn(len(p.c.Members) + 2))
		a, b, votes := p.someCert(), p.someCert(), p.list(steady)
		got, e := blame.Blame(name, p.c, p.r, a, b, votes)
		want, refusal := modelBlame(name, p.c, p.r, a, b, votes)
		if e != refusal || !slices.Equal(got, want) {
			t.Fatalf("B1: seed %d: error %d,%s\nwant %d,%s", seed, e, tell(got), refusal, tell(want))
		}
		counts[e]++
		if e == api.OK {
			p.blame("a play", a, b, votes)
			p.wantTurned(votes, a, b, got)
			p.wantMore(votes, a, b)
			if a.Round == b.Round && 3*blame.Power(p.c, got) <= council.Total(p.c) {
				t.Fatalf("P17.3: seed %d: %s", seed, tell(got))
			}
			if len(got) == 0 {
				nobody++
			}
		}
		for _, g := range got {
			kinds[g.Kind]++
		}
		for range 20 {
			g := p.someGuilt(votes)
			e, refusal := blame.Guilty(name, p.c, p.r, g, votes), modelGuilty(name, p.c, p.r, g, votes)
			if e != refusal {
				t.Fatalf("B2: seed %d: %s: error %d, want %d", seed, tell([]api.Guilt{g}), e, refusal)
			}
			if g.Kind == api.GuiltForget && e == api.ErrPair && blame.Guilty(name, p.c, p.r, g, nil) == api.OK {
				free++
			}
			counts[e]++
		}
	}
	for _, e := range []api.Errno{api.OK, api.ErrArg, api.ErrField, api.ErrMember, api.ErrPair, api.ErrSeal, api.ErrQuorum, api.ErrSame} {
		if counts[e] < 20 {
			t.Errorf("the error %d was answered %d times", e, counts[e])
		}
	}
	if kinds[api.GuiltTwice] < 300 || kinds[api.GuiltForget] < 300 || free < 100 || nobody < 30 {
		t.Errorf("too little has come about: %v, %d had a reason, %d named nobody", kinds, free, nobody)
	}
}

// someGuilt is one of two votes, mostly of one member.
func (p *play) someGuilt(votes []api.Vote) api.Guilt {
	pick := func() api.Vote {
		if len(votes) > 0 {
			return votes[p.Intn(len(votes))]
		}
		return p.some(0)
	}
	g := api.Guilt{Kind: 1 + p.Intn(2), A: pick(), B: pick()}
	for range 20 {
		if g.A.From != g.B.From || g.Kind == api.GuiltForget && (g.A.Kind != api.Precommit || g.B.Kind != api.Prevote) {
			g.A, g.B = pick(), pick()
		}
	}
	g.Addr = g.A.From
	switch p.Intn(20) {
	case 0:
		g.Addr = p.who()
	case 1:
		g.Kind = p.Intn(4)
	case 2:
		g.A.Seal[1]++
	}
	return g
}

// wantTurned is P17.5: what is shown twice, or in another order, changes nothing.
func (p *play) wantTurned(votes []api.Vote, a, b api.Cert, want []api.Guilt) {
	p.t.Helper()
	more := joined(votes, votes)
	p.Shuffle(len(more), func(k, l int) { more[k], more[l] = more[l], more[k] })
	if got, e := blame.Blame(name, p.c, p.r, a, b, more); e != api.OK || !slices.Equal(got, want) {
		p.t.Fatalf("P17.5: error %d,%s\nwant%s", e, tell(got), tell(want))
	}
}

// wantMore is P17.5: more votes make nobody guilty of forgetting who was not, unless one of that very member is among them.
func (p *play) wantMore(votes []api.Vote, a, b api.Cert) {
	p.t.Helper()
	one := api.Addr(1 + p.Intn(len(p.c.Members)))
	var more []api.Vote
	for _, v := range p.list(0) {
		if v.From != one || len(modelCounts(name, p.c, p.r, height, []api.Vote{v})) == 0 {
			more = append(more, v)
		}
	}
	named := func(votes []api.Vote) bool {
		got, e := blame.Blame(name, p.c, p.r, a, b, votes)
		is(p.t, "P17.5", e, api.OK)
		return slices.ContainsFunc(got, func(g api.Guilt) bool { return g.Addr == one && g.Kind == api.GuiltForget })
	}
	if named(joined(more, votes)) && !named(votes) {
		p.t.Fatalf("P17.5: more votes of others have made %d guilty", one)
	}
	for range 5 {
		if g := p.someGuilt(votes); g.Kind == api.GuiltForget {
			before, behind := blame.Guilty(name, p.c, p.r, g, votes), blame.Guilty(name, p.c, p.r, g, joined(more, votes))
			if behind == api.OK && before != api.OK {
				p.t.Fatalf("P17.5: more votes have made %s", tell([]api.Guilt{g}))
			}
		}
	}
}
