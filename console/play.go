package console

import (
	"assent/api"
	"assent/cluster"
)

// play is what the lines of a script have come to.
type play struct {
	genesis api.Genesis
	addrs   []api.Addr       // of the cluster, by place
	started *cluster.Cluster // nil: not yet
}

func newPlay() *play {
	return &play{genesis: api.Genesis{Chain: "c", Time: 1, Params: api.Params{
		MinBond: 1, Seats: 64, Slash: 100, Period: 16, Age: 8, MaxTxs: 100,
		Propose: 6, Votes: 4, Pause: 2, Resend: 5, Trusting: 1000, Drift: 10,
	}}}
}

// beginning is what a line ahead of start says something of.
func (p *play) beginning() *api.Genesis {
	if p.started != nil {
		panic(refused{api.ErrState})
	}
	return &p.genesis
}

// cluster is what a line behind start is played over.
func (p *play) cluster() *cluster.Cluster {
	if p.started == nil {
		panic(refused{api.ErrState})
	}
	return p.started
}

// addrAt is the address at a place, 0 at no place.
func (p *play) addrAt(place int) api.Addr {
	if place >= len(p.addrs) {
		return 0
	}
	return p.addrs[place]
}

func (p *play) chain(w *words) string {
	name, time := w.next(), w.number()
	g := p.beginning()
	g.Chain, g.Time = name, time
	return done(api.OK)
}

func (p *play) account(w *words) string {
	x := api.Account{Addr: w.addr(), Balance: w.number(), Bond: w.number()}
	g := p.beginning()
	g.Accounts = append(g.Accounts, x)
	return done(api.OK)
}

func (p *play) param(w *words) string {
	set, n := w.param(), w.number()
	set(&p.beginning().Params, n)
	return done(api.OK)
}

func (p *play) start(w *words) string {
	liars := w.count()
	var addrs []api.Addr
	for w.more() {
		addrs = append(addrs, w.addr())
	}
	c, e := cluster.New(*p.beginning(), addrs, liars)
	must(e)
	p.started, p.addrs = c, addrs
	return done(api.OK)
}

// setting is a parameter that a script may name.
type setting struct {
	name string
	set  func(*api.Params, uint64)
}

func settings() []setting {
	return []setting{
		{"minbond", func(q *api.Params, n uint64) { q.MinBond = n }},
		{"seats", func(q *api.Params, n uint64) { q.Seats = asInt(n) }},
		{"slash", func(q *api.Params, n uint64) { q.Slash = n }},
		{"period", func(q *api.Params, n uint64) { q.Period = n }},
		{"age", func(q *api.Params, n uint64) { q.Age = n }},
		{"maxtxs", func(q *api.Params, n uint64) { q.MaxTxs = asInt(n) }},
		{"propose", func(q *api.Params, n uint64) { q.Propose = n }},
		{"votes", func(q *api.Params, n uint64) { q.Votes = n }},
		{"pause", func(q *api.Params, n uint64) { q.Pause = n }},
		{"resend", func(q *api.Params, n uint64) { q.Resend = n }},
		{"trusting", func(q *api.Params, n uint64) { q.Trusting = n }},
		{"drift", func(q *api.Params, n uint64) { q.Drift = n }},
	}
}

// param is how the parameter of that name is set.
func (w *words) param() func(*api.Params, uint64) {
	name := w.next()
	for _, s := range settings() {
		if s.name == name {
			return s.set
		}
	}
	panic(refused{api.ErrWord})
}
