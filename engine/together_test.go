package engine_test

import (
	"math/rand"
	"testing"

	"assent/api"
	"assent/council"
	"assent/engine"
)

// group is some engines of one height between which messages are under way. Members that have no engine lie.
type group struct {
	t       *testing.T
	r       *rand.Rand
	c       api.Council
	engines map[api.Addr]*engine.Engine
	waits   map[api.Addr][]api.Input
	way     map[api.Addr][]api.Input
	decided map[api.Addr]api.Hash
	blocks  uint64
}

func newGroup(t *testing.T, seed int64, c api.Council, liars int) *group {
	t.Helper()
	g := &group{t: t, r: rand.New(rand.NewSource(seed)), c: c, engines: map[api.Addr]*engine.Engine{}, waits: map[api.Addr][]api.Input{}, way: map[api.Addr][]api.Input{}, decided: map[api.Addr]api.Hash{}}
	for _, m := range c.Members[liars:] {
		e, refusal := engine.New(1, c, ticks, m.Addr)
		if refusal != api.OK {
			t.Fatalf("E1: error %d", refusal)
		}
		g.engines[m.Addr] = e
	}
	for _, m := range c.Members[liars:] {
		g.hand(m.Addr, start())
	}
	return g
}

// send puts an input on its way to all others.
func (g *group) send(from api.Addr, in api.Input) {
	for a := range g.engines {
		if a != from {
			g.way[a] = append(g.way[a], in)
		}
	}
}

// hand hands an input to an engine, and works off what is to be done, as a node does.
func (g *group) hand(a api.Addr, in api.Input) {
	g.t.Helper()
	dos, refusal := g.engines[a].Take(in)
	if refusal != api.OK {
		g.t.Fatalf("E2: %d: %+v: error %d", a, in, refusal)
	}
	for at := 0; at < len(dos); at++ {
		back := api.Input{Now: in.Now}
		switch d := dos[at]; d.Kind {
		case api.DoVote:
			back.Kind, back.Votes = api.InVote, []api.Vote{d.Vote}
			g.send(a, back)
		case api.DoPropose:
			back.Kind, back.Proposal, back.Block, back.Votes, back.Good = api.InProposal, d.Proposal, d.Block, d.Votes, true
			g.send(a, back)
		case api.DoBuild:
			g.blocks++
			back.Kind, back.Round, back.Block = api.InBuilt, d.Round, blockAt(1, 100+g.blocks)
		case api.DoTimeout:
			g.waits[a] = append(g.waits[a], over(d.Step, d.Round))
			continue
		case api.DoDecide:
			g.decided[a] = d.Cert.Id
			continue
		default:
			continue
		}
		more, refusal := g.engines[a].Take(back)
		if refusal != api.OK {
			g.t.Fatalf("E2: %d: its own %+v: error %d", a, back, refusal)
		}
		dos = append(dos, more...)
	}
}

// lie sends unlike things to unlike engines, of any round near.
func (g *group) lie(liar api.Addr) {
	for _, m := range g.c.Members {
		e := g.engines[m.Addr]
		if e == nil || g.r.Intn(2) == 0 {
			continue
		}
		round := max(0, e.View().Round+g.r.Intn(4)-1)
		id := none
		if v := e.View(); g.r.Intn(3) > 0 {
			id = v.ValidId
		}
		v := vote(1+g.r.Intn(2), round, id, liar)
		if from, _ := council.Proposer(g.c, round); from == liar && g.r.Intn(2) == 0 {
			g.blocks++
			g.way[m.Addr] = append(g.way[m.Addr], proposedBy(liar, round, -1, blockAt(1, 100+g.blocks)))
		}
		g.way[m.Addr] = append(g.way[m.Addr], voted(v))
	}
}

// stir delivers something, in any order, or lets a wait be over; things are lost and doubled.
func (g *group) stir(a api.Addr) {
	n := g.r.Intn(10)
	if way := g.way[a]; n < 8 && len(way) > 0 {
		at := g.r.Intn(len(way))
		in := way[at]
		if g.r.Intn(6) > 0 {
			g.hand(a, in)
		}
		if g.r.Intn(6) > 0 {
			way[at] = way[len(way)-1]
			g.way[a] = way[:len(way)-1]
		}
	} else if waits := g.waits[a]; n == 8 && len(waits) > 0 {
		at := g.r.Intn(len(waits))
		in := waits[at]
		g.waits[a] = append(waits[:at:at], waits[at+1:]...)
		g.hand(a, in)
	}
}

// calm delivers all that is held to everybody, and lets the waits be over.
func (g *group) calm() {
	for _, m := range g.c.Members {
		if e := g.engines[m.Addr]; e != nil {
			for _, held := range e.Held() {
				kinds := map[int]int{api.MsgProposal: api.InProposal, api.MsgVote: api.InVote, api.MsgPolka: api.InPolka}
				g.send(m.Addr, api.Input{Kind: kinds[held.Kind], Proposal: held.Proposal, Block: held.Block, Votes: held.Votes, Good: held.Kind != api.MsgVote})
			}
		}
	}
	for quiet := false; !quiet; {
		quiet = true
		for _, m := range g.c.Members {
			for len(g.way[m.Addr]) > 0 {
				quiet = false
				in := g.way[m.Addr][0]
				g.way[m.Addr] = g.way[m.Addr][1:]
				g.hand(m.Addr, in)
			}
		}
	}
	for _, m := range g.c.Members {
		waits := g.waits[m.Addr]
		g.waits[m.Addr] = nil
		for _, in := range waits {
			g.hand(m.Addr, in)
		}
	}
}

// agreed: all that have decided have decided the same.
func (g *group) agreed(what string) {
	g.t.Helper()
	var first api.Hash
	for _, id := range g.decided {
		if first == none {
			first = id
		}
		if id != first {
			g.t.Fatalf("W1: %s: two blocks are decided", what)
		}
	}
}

// TestTogether: while fewer than a third lie and messages come in any order, nobody decides another block than the others; and when all messages come, everybody decides.
func TestTogether(t *testing.T) {
	unlike := 0
	for seed := range int64(150) {
		powers, liars := []uint64{1, 1, 1, 1}, int(seed%2)
		if seed%3 == 0 {
			powers = []uint64{2, 1, 2, 1, 1}
		}
		g := newGroup(t, seed, councilOf(powers...), liars)
		for range 400 {
			for _, m := range g.c.Members {
				if g.engines[m.Addr] != nil {
					g.stir(m.Addr)
				} else if g.r.Intn(8) == 0 {
					g.lie(m.Addr)
				}
			}
		}
		g.agreed("stirred")
		if n := len(g.decided); n > 0 && n < len(g.engines) {
			unlike++
		}
		for range 60 {
			// Who has decided is silent: the certificate comes from what the others still hold, or from its precommits.
			g.calm()
			g.agreed("calm")
		}
		if len(g.decided) == 0 {
			t.Errorf("W5: seed %d: nobody decides", seed)
		}
	}
	if unlike == 0 {
		t.Errorf("it was never so that only some had decided")
	}
}
