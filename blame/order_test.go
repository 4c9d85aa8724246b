package blame_test

import (
	"fmt"
	"math"
	"slices"
	"testing"

	"assent/api"
	"assent/blame"
	"assent/seal"
)

// asked is what a call is handed, Blame a and b, Guilty g.
type asked struct {
	o     *world
	chain string
	c     api.Council
	r     *seal.Registry
	a, b  api.Cert
	g     api.Guilt
	votes []api.Vote
}

func (q *asked) blame() api.Errno {
	guilts, e := blame.Blame(q.chain, q.c, q.r, q.a, q.b, q.votes)
	if e != api.OK && guilts != nil {
		q.o.t.Errorf("G2: %s beside the error %d", tell(guilts), e)
	}
	return e
}

func (q *asked) guilty() api.Errno { return blame.Guilty(q.chain, q.c, q.r, q.g, q.votes) }

// fault is one thing that is wrong, and what it is refused with.
type fault struct {
	what string
	e    api.Errno
	make func(q *asked)
}

// wantOrder: each fault is refused by itself, and of each two of unlike steps the one that comes first. Faults of later steps are made first, as some of them make a whole thing anew.
func wantOrder(t *testing.T, what string, begin func() *asked, call func(q *asked) api.Errno, steps [][]fault) {
	t.Helper()
	is(t, what+": nothing is wrong", call(begin()), api.OK)
	for k, step := range steps {
		for _, one := range step {
			q := begin()
			one.make(q)
			is(t, what+": "+one.what, call(q), one.e)
			for _, later := range steps[k+1:] {
				for _, two := range later {
					q := begin()
					two.make(q)
					one.make(q)
					is(t, what+": "+one.what+", "+two.what, call(q), one.e)
				}
			}
		}
	}
}

// common are the first two steps of both calls.
func common() [][]fault {
	return [][]fault{
		{
			{"a nil registry", api.ErrNil, func(q *asked) { q.r = nil }},
			{"a registry that is none", api.ErrNil, func(q *asked) { q.r = &seal.Registry{} }},
		},
		{
			{"nobody", api.ErrEmpty, func(q *asked) { q.c = api.Council{} }},
			{"too many", api.ErrBig, func(q *asked) { q.c.Members = make([]api.Member, api.MaxSeats+1) }},
			{"a member 0", api.ErrNobody, func(q *asked) { q.c.Members[0].Addr = 0 }},
			{"a member twice", api.ErrDouble, func(q *asked) { q.c.Members[2].Addr = 2 }},
			{"no power", api.ErrPower, func(q *asked) { q.c.Members[3].Power = 0 }},
			{"too much power", api.ErrTotal, func(q *asked) { q.c.Members[3].Power = api.MaxSupply }},
			{"a priority", api.ErrArg, func(q *asked) { q.c.Members[3].Priority = math.MinInt64 }},
		},
	}
}

// certFaults are those of a certificate, in the order of chain.CheckCert.
func certFaults(which string, of func(q *asked) *api.Cert) []fault {
	change := func(do func(o *world, x *api.Cert)) func(q *asked) {
		return func(q *asked) {
			x := of(q)
			x.Marks = slices.Clone(x.Marks)
			do(q.o, x)
		}
	}
	return []fault{
		{which + " of no round", api.ErrField, change(func(_ *world, x *api.Cert) { x.Round = -1 })},
		{which + " of no height", api.ErrField, change(func(_ *world, x *api.Cert) { x.Height = math.MaxUint64 })},
		{which + " with too many marks", api.ErrBig, change(func(_ *world, x *api.Cert) { x.Marks = make([]api.Mark, api.MaxSeats+1) })},
		{which + " in another order", api.ErrOrder, change(func(_ *world, x *api.Cert) { slices.Reverse(x.Marks) })},
		{which + " is the zero one", api.ErrCert, change(func(_ *world, x *api.Cert) { *x = api.Cert{} })},
		{which + " of no place", api.ErrMember, change(func(_ *world, x *api.Cert) { x.Marks[2].Index = 4 })},
		{which + " with another seal", api.ErrSeal, change(func(_ *world, x *api.Cert) { x.Marks[1].Seal[0]++ })},
		{which + " with another time", api.ErrSeal, change(func(_ *world, x *api.Cert) { x.Marks[1].Time++ })},
		{which + " by two", api.ErrQuorum, change(func(_ *world, x *api.Cert) { x.Marks = x.Marks[:2] })},
		{which + " by nobody", api.ErrQuorum, change(func(_ *world, x *api.Cert) { x.Marks = nil })},
	}
}

func TestBlameOrder(t *testing.T) {
	begin := func() *asked {
		o := four(t)
		return &asked{o: o, chain: name, c: o.c, r: o.r, a: o.cert(0, v, 1, 2, 3), b: o.cert(0, w, 2, 3, 4), votes: o.prevotes(1, x, 1, 2, 3, 4)}
	}
	steps := append(common(),
		certFaults("a", func(q *asked) *api.Cert { return &q.a }),
		certFaults("b", func(q *asked) *api.Cert { return &q.b }),
		[]fault{
			{"of one id", api.ErrSame, func(q *asked) { q.b = q.o.cert(0, v, 2, 3, 4) }},
			{"of one id, in two rounds", api.ErrSame, func(q *asked) { q.b = q.o.cert(1, v, 2, 3, 4) }},
			{"one certificate", api.ErrSame, func(q *asked) { q.b = q.a }},
			{"of two heights", api.ErrSame, func(q *asked) { q.b = q.o.certAt(6, 0, w, 2, 3, 4) }},
			{"of two heights, below", api.ErrSame, func(q *asked) { q.b = q.o.certAt(4, 0, w, 2, 3, 4) }},
			{"of two heights and one id", api.ErrSame, func(q *asked) { q.b = q.o.certAt(6, 0, v, 2, 3, 4) }},
		},
	)
	wantOrder(t, "B1", begin, (*asked).blame, steps)

	for chain, want := range map[string]api.Errno{"": api.ErrField, "seventeen letters": api.ErrField, "d": api.ErrSeal} {
		q := begin()
		q.chain = chain
		is(t, "B1: the chain "+chain, q.blame(), want)
		q.a.Marks = nil
		is(t, "B1: the chain "+chain+", no marks", q.blame(), api.ErrQuorum)
	}
}

// pairFaults are what a guilt may not be, its votes sealed all the same.
func pairFaults(change map[string]func(g *api.Guilt)) (list []fault) {
	for what, do := range change {
		list = append(list, fault{what, api.ErrPair, func(q *asked) {
			do(&q.g)
			q.g.A, q.g.B = q.o.sign(name, q.g.A), q.o.sign(name, q.g.B)
		}})
	}
	return list
}

// guiltSteps are the steps of Guilty ahead of the seals, with these faults of the pair.
func guiltSteps(pair []fault) [][]fault {
	plain := func(which string, of func(q *asked) *api.Vote) []fault {
		return []fault{
			{which + " of no kind", api.ErrKind, func(q *asked) { of(q).Kind = 3 }},
			{which + " of height 0", api.ErrField, func(q *asked) { of(q).Height = 0 }},
			{which + " of no round", api.ErrField, func(q *asked) { of(q).Round = api.MaxRound + 1 }},
			{which + " of no time", api.ErrField, func(q *asked) { of(q).Time = math.MaxUint64 }},
			{which + " of nobody", api.ErrField, func(q *asked) { of(q).From = 0 }},
		}
	}
	return append(common(),
		[]fault{
			{"no member", api.ErrMember, func(q *asked) { q.g.Addr = 9 }},
			{"the member 0", api.ErrMember, func(q *asked) { q.g.Addr = 0 }},
			{"no member, whose votes they are", api.ErrMember, func(q *asked) {
				q.g.Addr, q.g.A.From, q.g.B.From = 9, 9, 9
				q.g.A, q.g.B = q.o.sign(name, q.g.A), q.o.sign(name, q.g.B)
			}},
		},
		[]fault{
			{"the kind 0", api.ErrArg, func(q *asked) { q.g.Kind = 0 }},
			{"the kind 3", api.ErrArg, func(q *asked) { q.g.Kind = 3 }},
			{"the kind -1", api.ErrArg, func(q *asked) { q.g.Kind = -1 }},
		},
		plain("A", func(q *asked) *api.Vote { return &q.g.A }),
		plain("B", func(q *asked) *api.Vote { return &q.g.B }),
		pair,
		[]fault{
			{"A with another seal", api.ErrSeal, func(q *asked) { q.g.A.Seal[3]++ }},
			{"B with another seal", api.ErrSeal, func(q *asked) { q.g.B.Seal[3]++ }},
			{"A without a seal", api.ErrSeal, func(q *asked) { q.g.A.Seal = api.Seal{} }},
			{"B sealed for another chain", api.ErrSeal, func(q *asked) { q.g.B = q.o.sign("d", q.g.B) }},
			{"no chain", api.ErrSeal, func(q *asked) { q.chain = "" }},
			{"too long a chain", api.ErrSeal, func(q *asked) { q.chain = "seventeen letters" }},
			{"another chain", api.ErrSeal, func(q *asked) { q.chain = "d" }},
		})
}

func TestGuiltyTwiceOrder(t *testing.T) {
	for _, kind := range []int{api.Prevote, api.Precommit} {
		for _, low := range []api.Hash{v, none} {
			begin := func() *asked {
				o := four(t)
				q := &asked{o: o, chain: name, c: o.c, r: o.r, votes: o.prevotes(1, w, 1, 2, 3, 4)}
				q.g = twice(o.prevote(2, low, 2), o.prevote(2, w, 2))
				if kind == api.Precommit {
					q.g = twice(o.precommit(2, low, 2), o.precommit(2, w, 2))
				}
				return q
			}
			steps := guiltSteps(pairFaults(map[string]func(g *api.Guilt){
				"A of another":      func(g *api.Guilt) { g.A.From = 3 },
				"B of another":      func(g *api.Guilt) { g.B.From = 3 },
				"both of another":   func(g *api.Guilt) { g.A.From, g.B.From = 3, 3 },
				"of a stranger":     func(g *api.Guilt) { g.A.From, g.B.From = 9, 9 },
				"of two heights":    func(g *api.Guilt) { g.B.Height++ },
				"of two kinds":      func(g *api.Guilt) { g.A.Kind, g.A.Time = 3-kind, 0 },
				"of two rounds":     func(g *api.Guilt) { g.B.Round++ },
				"of a round ahead":  func(g *api.Guilt) { g.B.Round-- },
				"for one id":        func(g *api.Guilt) { g.A.Id = w },
				"for none, twice":   func(g *api.Guilt) { g.A.Id, g.B.Id, g.A.Time, g.B.Time = none, none, 0, 0 },
				"one vote":          func(g *api.Guilt) { g.A = g.B },
				"the greater ahead": func(g *api.Guilt) { g.A, g.B = g.B, g.A },
				"of two times":      func(g *api.Guilt) { g.A = g.B; g.A.Time = 0 },
			}))
			wantOrder(t, fmt.Sprint("B2: twice, kind ", kind), begin, (*asked).guilty, steps)
		}
	}
}

func TestGuiltyForgetOrder(t *testing.T) {
	begin := func() *asked {
		o := four(t)
		return &asked{o: o, chain: name, c: o.c, r: o.r, g: forget(o.precommit(2, v, 2), o.prevote(4, w, 2)),
			votes: joined(o.prevotes(1, w, 1, 3, 4), o.prevotes(2, x, 1, 3, 4), o.prevotes(3, v, 1, 3, 4), o.prevotes(4, w, 1, 3, 4))}
	}
	steps := guiltSteps(pairFaults(map[string]func(g *api.Guilt){
		"A of another":      func(g *api.Guilt) { g.A.From = 3 },
		"B of another":      func(g *api.Guilt) { g.B.From = 3 },
		"both of another":   func(g *api.Guilt) { g.A.From, g.B.From = 3, 3 },
		"of two heights":    func(g *api.Guilt) { g.B.Height++ },
		"A a prevote":       func(g *api.Guilt) { g.A.Kind, g.A.Time = api.Prevote, 0 },
		"B a precommit":     func(g *api.Guilt) { g.B.Kind = api.Precommit },
		"A for none":        func(g *api.Guilt) { g.A.Id, g.A.Time = none, 0 },
		"B for none":        func(g *api.Guilt) { g.B.Id = none },
		"for one id":        func(g *api.Guilt) { g.B.Id = v },
		"of one round":      func(g *api.Guilt) { g.B.Round = 2 },
		"B ahead":           func(g *api.Guilt) { g.B.Round = 1 },
		"changed about":     func(g *api.Guilt) { g.A, g.B = g.B, g.A },
		"twice, not forgot": func(g *api.Guilt) { g.B = g.A; g.B.Id, g.B.Time = w, 0 },
	}))
	polka := func(round int) fault {
		return fault{fmt.Sprint("a reason of round ", round), api.ErrPair, func(q *asked) {
			q.votes = append(q.votes, q.o.prevotes(round, w, 4, 3, 1)...)
		}}
	}
	wantOrder(t, "B2: forgotten", begin, (*asked).guilty, append(steps, []fault{polka(2), polka(3)}))

	// Above v or below it, the other block is another one.
	o := four(t)
	o.guilty("B2: the greater id first", forget(o.precommit(2, w, 2), o.prevote(4, v, 2)), nil, api.OK)
	// What is twice is not looked at for reasons.
	o.guilty("B2: twice has no reason", twice(o.prevote(4, v, 2), o.prevote(4, w, 2)), joined(o.prevotes(3, v, 1, 3, 4), o.prevotes(3, w, 1, 3, 4)), api.OK)
	// The votes of another height are no reason, whichever height the guilt is of.
	g := forget(o.precommit(2, v, 2), o.prevote(4, w, 2))
	g.A.Height, g.B.Height = 1, 1
	g.A, g.B = o.sign(name, g.A), o.sign(name, g.B)
	other := o.prevotes(3, w, 1, 3, 4)
	o.guilty("B2: reasons of another height", g, other, api.OK)
	for k := range other {
		other[k].Height = 1
		other[k] = o.sign(name, other[k])
	}
	o.guilty("B2: reasons of its height", g, other, api.ErrPair)
	g.A.Height, g.B.Height = api.MaxHeight, api.MaxHeight
	g.A, g.B = o.sign(name, g.A), o.sign(name, g.B)
	o.guilty("B2: the greatest height", g, other, api.OK)
}
