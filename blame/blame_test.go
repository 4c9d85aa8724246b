package blame_test

import (
	"fmt"
	"slices"
	"testing"

	"assent/api"
	"assent/blame"
	"assent/council"
	"assent/seal"
	"assent/wire"
)

const (
	name   = "c"
	height = 5
)

// world is a council of the members 1, 2, .. and their signers.
type world struct {
	t       *testing.T
	r       *seal.Registry
	signers map[api.Addr]*seal.Signer
	c       api.Council
}

func newWorld(t *testing.T, powers ...uint64) *world {
	t.Helper()
	w := &world{t: t, r: seal.New(), signers: map[api.Addr]*seal.Signer{}}
	var list []api.Member
	for k, p := range powers {
		list = append(list, api.Member{Addr: api.Addr(k + 1), Power: p})
	}
	var e api.Errno
	if w.c, e = council.New(list); e != api.OK {
		t.Fatalf("council.New: error %d", e)
	}
	return w
}

// four is the council of the chapter's examples.
func four(t *testing.T) *world {
	t.Helper()
	return newWorld(t, 1, 1, 1, 1)
}

// id is that of some block; 0 is none.
func id(n byte) (h api.Hash) {
	h[0] = n
	return h
}

// v, w and x rise.
var v, w, x = id(1), id(2), id(3)

var none api.Hash

// sign seals a vote for a chain, if it has bytes to be signed.
func (o *world) sign(chain string, v api.Vote) api.Vote {
	o.t.Helper()
	if o.signers[v.From] == nil {
		o.signers[v.From], _ = o.r.Enter(v.From)
	}
	if msg, e := wire.VoteBytes(chain, v); e == api.OK {
		v.Seal, e = o.signers[v.From].Sign(msg)
		if e != api.OK {
			o.t.Fatalf("Sign: error %d", e)
		}
	}
	return v
}

func (o *world) prevote(round int, id api.Hash, from api.Addr) api.Vote {
	o.t.Helper()
	return o.sign(name, api.Vote{Kind: api.Prevote, Height: height, Round: round, Id: id, From: from})
}

func (o *world) precommit(round int, id api.Hash, from api.Addr) api.Vote {
	o.t.Helper()
	if id == none {
		return o.precommitAt(0, round, id, from)
	}
	return o.precommitAt(8, round, id, from)
}

func (o *world) precommitAt(time uint64, round int, id api.Hash, from api.Addr) api.Vote {
	o.t.Helper()
	return o.sign(name, api.Vote{Kind: api.Precommit, Height: height, Round: round, Id: id, Time: time, From: from})
}

// prevotes are those of some members, for one id.
func (o *world) prevotes(round int, id api.Hash, by ...api.Addr) (list []api.Vote) {
	o.t.Helper()
	for _, a := range by {
		list = append(list, o.prevote(round, id, a))
	}
	return list
}

// cert is of precommits by some members, whose addresses are their places and 1.
func (o *world) cert(round int, id api.Hash, by ...api.Addr) api.Cert {
	o.t.Helper()
	return o.certAt(height, round, id, by...)
}

func (o *world) certAt(height uint64, round int, id api.Hash, by ...api.Addr) api.Cert {
	o.t.Helper()
	c := api.Cert{Height: height, Round: round, Id: id}
	for _, a := range by {
		p := o.sign(name, api.Vote{Kind: api.Precommit, Height: height, Round: round, Id: id, Time: 8, From: a})
		c.Marks = append(c.Marks, api.Mark{Index: int(a) - 1, Time: p.Time, Seal: p.Seal})
	}
	return c
}

// votesOf are the votes that a certificate's marks stand for.
func votesOf(c api.Council, certs ...api.Cert) (list []api.Vote) {
	for _, x := range certs {
		for _, m := range x.Marks {
			list = append(list, api.Vote{Kind: api.Precommit, Height: x.Height, Round: x.Round, Id: x.Id, Time: m.Time, From: c.Members[m.Index].Addr, Seal: m.Seal})
		}
	}
	return list
}

func joined(lists ...[]api.Vote) []api.Vote { return slices.Concat(lists...) }

func twice(a, b api.Vote) api.Guilt {
	return api.Guilt{Addr: a.From, Kind: api.GuiltTwice, A: a, B: b}
}

func forget(a, b api.Vote) api.Guilt {
	return api.Guilt{Addr: a.From, Kind: api.GuiltForget, A: a, B: b}
}

func is(t *testing.T, what string, got, want api.Errno) {
	t.Helper()
	if got != want {
		t.Errorf("%s: error %d, want %d", what, got, want)
	}
}

// blame asks, and looks at what follows of every answer: P17.4 and P17.6.
func (o *world) blame(what string, a, b api.Cert, votes []api.Vote) []api.Guilt {
	o.t.Helper()
	guilts, e := blame.Blame(name, o.c, o.r, a, b, votes)
	is(o.t, what, e, api.OK)
	again, e := blame.Blame(name, o.c, o.r, b, a, votes)
	if e != api.OK || !slices.Equal(guilts, again) {
		o.t.Errorf("P17.6: %s: %s, error %d, and %s", what, tell(again), e, tell(guilts))
	}
	shown := joined(votes, votesOf(o.c, a, b))
	for _, g := range guilts {
		is(o.t, "P17.4: "+what+": "+tell([]api.Guilt{g}), blame.Guilty(name, o.c, o.r, g, shown), api.OK)
	}
	return guilts
}

// want: just these are told.
func (o *world) want(what string, a, b api.Cert, votes []api.Vote, want ...api.Guilt) {
	o.t.Helper()
	if got := o.blame(what, a, b, votes); !slices.Equal(got, want) {
		o.t.Errorf("%s: %s\nwant%s", what, tell(got), tell(want))
	}
}

// tell is what is told, in few words.
func tell(guilts []api.Guilt) (text string) {
	for _, g := range guilts {
		text += fmt.Sprintf("\n  %d kind %d by %s and %s", g.Addr, g.Kind, tellVote(g.A), tellVote(g.B))
	}
	return text
}

func tellVote(v api.Vote) string {
	return fmt.Sprintf("(%d round %d %x of %d at %d)", v.Kind, v.Round, v.Id[:2], v.From, v.Time)
}

func (o *world) guilty(what string, g api.Guilt, votes []api.Vote, want api.Errno) {
	o.t.Helper()
	is(o.t, what, blame.Guilty(name, o.c, o.r, g, votes), want)
}

// TestExamples is the chapter's list.
func TestExamples(t *testing.T) {
	o := four(t)
	a, b := o.cert(0, v, 1, 2, 3), o.cert(0, w, 2, 3, 4)
	o.want("1", a, b, nil,
		twice(o.precommit(0, v, 2), o.precommit(0, w, 2)),
		twice(o.precommit(0, v, 3), o.precommit(0, w, 3)))
	if n := blame.Power(o.c, o.blame("1", a, b, nil)); n != 2 || 3*n <= council.Total(o.c) {
		t.Errorf("1: the power %d", n)
	}

	o = four(t)
	a, b = o.cert(0, v, 1, 2, 3), o.cert(2, w, 2, 3, 4)
	last := o.prevotes(2, w, 2, 3, 4)
	o.want("2", a, b, last,
		forget(o.precommit(0, v, 2), o.prevote(2, w, 2)),
		forget(o.precommit(0, v, 3), o.prevote(2, w, 3)))
	o.want("3", a, b, joined(last, o.prevotes(1, w, 2, 3, 4)),
		forget(o.precommit(0, v, 2), o.prevote(1, w, 2)),
		forget(o.precommit(0, v, 3), o.prevote(1, w, 3)))
	o.want("4", a, b, joined(last, o.prevotes(1, w, 1, 3, 4)),
		forget(o.precommit(0, v, 1), o.prevote(1, w, 1)),
		forget(o.precommit(0, v, 3), o.prevote(1, w, 3)))
	o.want("6", a, b, joined(last, o.prevotes(1, none, 1, 2, 3, 4)),
		forget(o.precommit(0, v, 2), o.prevote(2, w, 2)),
		forget(o.precommit(0, v, 3), o.prevote(2, w, 3)))

	for what, certs := range map[string][2]api.Cert{
		"5: one id":      {a, o.cert(1, v, 2, 3, 4)},
		"5: two heights": {a, o.certAt(6, 0, w, 2, 3, 4)},
	} {
		o.refused(what, o.r, certs[0], certs[1], api.ErrSame)
	}
	o.refused("5: two marks", o.r, o.cert(0, v, 1, 2), b, api.ErrQuorum)
	o.refused("5: no registry", nil, a, b, api.ErrNil)

	if n := blame.Power(o.c, []api.Guilt{{Addr: 2}, {Addr: 2, Kind: 1}, {Addr: 2, Kind: 9}}); n != 1 {
		t.Errorf("6: the power %d", n)
	}
	if n := blame.Power(o.c, []api.Guilt{{Addr: 9}}); n != 0 {
		t.Errorf("6: of no member the power %d", n)
	}
}

// refused: nothing is told beside the error.
func (o *world) refused(what string, r *seal.Registry, a, b api.Cert, want api.Errno) {
	o.t.Helper()
	guilts, e := blame.Blame(name, o.c, r, a, b, nil)
	is(o.t, what, e, want)
	if guilts != nil {
		o.t.Errorf("G2: %s: %s beside an error", what, tell(guilts))
	}
}

// aside is a council whose members 1, 2 and 3 have decided two blocks in the round 9, and have the power of a quorum; what the members 4, 5 and 6 have done is told behind what is told of these three.
type aside struct {
	*world
	a, b api.Cert
}

func newAside(t *testing.T) aside {
	t.Helper()
	o := newWorld(t, 10, 10, 10, 1, 1, 1)
	return aside{o, o.cert(9, id(100), 1, 2, 3), o.cert(9, id(101), 1, 2, 3)}
}

// told is what is told of the others, in whatever order the votes are shown, and however often.
func (o aside) told(what string, votes []api.Vote, want ...api.Guilt) {
	o.t.Helper()
	back := slices.Clone(votes)
	slices.Reverse(back)
	for _, shown := range [][]api.Vote{votes, back, joined(votes, back, votes)} {
		got := o.blame(what, o.a, o.b, shown)
		if len(got) < 3 || got[0].Addr != 1 || got[1].Addr != 2 || got[2].Addr != 3 {
			o.t.Fatalf("P17.3: %s: %s", what, tell(got))
		}
		if !slices.Equal(got[3:], want) {
			o.t.Errorf("%s: %s\nwant%s", what, tell(got[3:]), tell(want))
		}
	}
}

func TestTwice(t *testing.T) {
	o := newAside(t)
	o.told("B1: two prevotes", joined(o.prevotes(1, w, 4), o.prevotes(1, v, 4)), twice(o.prevote(1, v, 4), o.prevote(1, w, 4)))
	o.told("B1: none is the least", joined(o.prevotes(1, w, 4), o.prevotes(1, none, 4), o.prevotes(1, v, 4)),
		twice(o.prevote(1, none, 4), o.prevote(1, v, 4)))
	o.told("B1: the two least of four", joined(o.prevotes(1, id(200), 4), o.prevotes(1, w, 4), o.prevotes(1, id(127), 4), o.prevotes(1, id(128), 4)),
		twice(o.prevote(1, w, 4), o.prevote(1, id(127), 4)))
	o.told("B1: precommits", []api.Vote{o.precommit(2, none, 5), o.precommit(2, x, 5)}, twice(o.precommit(2, none, 5), o.precommit(2, x, 5)))
	o.told("B1: the lesser kind", joined(o.prevotes(2, w, 5), o.prevotes(2, v, 5), []api.Vote{o.precommit(2, none, 5), o.precommit(2, v, 5)}),
		twice(o.prevote(2, v, 5), o.prevote(2, w, 5)))
	o.told("B1: the least round, of whichever kind", joined(o.prevotes(2, w, 5), o.prevotes(2, v, 5), []api.Vote{o.precommit(1, x, 5), o.precommit(1, w, 5)}),
		twice(o.precommit(1, w, 5), o.precommit(1, x, 5)))
	o.told("B1: the least and the greatest round", joined(o.prevotes(0, w, 4), o.prevotes(0, v, 4), o.prevotes(api.MaxRound, w, 4, 6), o.prevotes(api.MaxRound, v, 4, 6)),
		twice(o.prevote(0, v, 4), o.prevote(0, w, 4)), twice(o.prevote(api.MaxRound, v, 6), o.prevote(api.MaxRound, w, 6)))
	o.told("no two: of two kinds", []api.Vote{o.prevote(1, v, 4), o.precommit(1, w, 4)})
	o.told("no two: of two rounds", joined(o.prevotes(1, v, 4), o.prevotes(2, w, 4), []api.Vote{o.precommit(1, none, 4), o.precommit(2, v, 4)}))
	o.told("no two: of two members", joined(o.prevotes(1, v, 4, 6), o.prevotes(1, w, 5)))
	o.told("B1: by rising member", joined(o.prevotes(1, v, 6, 5, 4), o.prevotes(1, w, 6, 5, 4)),
		twice(o.prevote(1, v, 4), o.prevote(1, w, 4)), twice(o.prevote(1, v, 5), o.prevote(1, w, 5)), twice(o.prevote(1, v, 6), o.prevote(1, w, 6)))
}

// TestIdsCompared: byte by byte, the first one first, as numbers without a sign.
func TestIdsCompared(t *testing.T) {
	o := newAside(t)
	var rising []api.Hash
	for _, row := range [][3]byte{{0, 0, 1}, {0, 0, 128}, {0, 1, 0}, {0, 255, 0}, {1, 0, 0}, {1, 0, 1}, {127, 255, 255}, {128, 0, 0}, {255, 0, 0}, {255, 255, 255}} {
		var h api.Hash
		h[0], h[15], h[31] = row[0], row[1], row[2]
		rising = append(rising, h)
	}
	for k, low := range rising {
		for _, high := range rising[k+1:] {
			o.told("B1: the lesser id", joined(o.prevotes(1, high, 4), o.prevotes(1, low, 4)), twice(o.prevote(1, low, 4), o.prevote(1, high, 4)))
			o.guilty("B2: the lesser id ahead", twice(o.prevote(1, low, 4), o.prevote(1, high, 4)), nil, api.OK)
			o.guilty("B2: the greater id ahead", twice(o.prevote(1, high, 4), o.prevote(1, low, 4)), nil, api.ErrPair)
		}
	}
}

// TestLeastTime: of votes that are alike but for Time and Seal the one with the least Time.
func TestLeastTime(t *testing.T) {
	o := newAside(t)
	at := func(time uint64, round int, id api.Hash) api.Vote { return o.precommitAt(time, round, id, 4) }
	o.told("no two: of two times", []api.Vote{at(5, 1, v), at(7, 1, v), at(0, 1, v), at(api.MaxTime, 1, v)})
	o.told("B1: twice", []api.Vote{at(7, 1, v), at(5, 1, v), at(9, 1, v), at(4, 1, w), at(0, 1, w), at(api.MaxTime, 1, w)}, twice(at(5, 1, v), at(0, 1, w)))
	o.told("B1: forgotten", []api.Vote{at(7, 1, v), at(5, 1, v), at(9, 1, v), at(1, 2, v), o.prevote(3, w, 4)}, forget(at(5, 1, v), o.prevote(3, w, 4)))

	// A mark is such a vote too.
	p := four(t)
	a, b := p.cert(0, v, 1, 2, 3), p.cert(0, w, 2, 3, 4)
	later, earlier := p.precommitAt(9, 0, v, 2), p.precommitAt(7, 0, w, 3)
	p.want("B1: marks", a, b, []api.Vote{later, earlier},
		twice(p.precommit(0, v, 2), p.precommit(0, w, 2)), twice(p.precommit(0, v, 3), earlier))
	b = p.cert(2, w, 2, 3, 4)
	p.want("B1: marks", a, b, joined([]api.Vote{p.precommitAt(9, 0, v, 2), p.precommitAt(7, 0, v, 3)}, p.prevotes(1, w, 2, 3)),
		forget(p.precommit(0, v, 2), p.prevote(1, w, 2)), forget(p.precommitAt(7, 0, v, 3), p.prevote(1, w, 3)))
}

func TestForget(t *testing.T) {
	o := newAside(t)
	locked := []api.Vote{o.precommit(3, v, 4)}
	all := []api.Addr{1, 2, 3}
	gone := forget(o.precommit(3, v, 4), o.prevote(6, w, 4))
	over := append(locked, o.prevote(6, w, 4))
	o.told("B1: without a reason", over, gone)
	for round := range 10 {
		votes := joined(over, o.prevotes(round, w, all...))
		what := fmt.Sprint("B1: a polka in round ", round)
		if 3 <= round && round <= 5 {
			o.told(what, votes)
			o.guilty(what, gone, votes, api.ErrPair)
		} else {
			o.told(what, votes, gone)
			o.guilty(what, gone, votes, api.OK)
		}
	}
	for what, votes := range map[string][]api.Vote{
		"polkas for others":        joined(o.prevotes(3, none, all...), o.prevotes(4, x, all...), o.prevotes(5, v, all...)),
		"too few":                  joined(o.prevotes(3, w, 1, 2, 5, 6), o.prevotes(4, w, 1, 3, 5, 6), o.prevotes(5, w, 2, 3, 5, 6)),
		"together, but not in one": joined(o.prevotes(3, w, 1), o.prevotes(4, w, 2), o.prevotes(5, w, 3)),
		"precommits":               {o.precommit(4, w, 1), o.precommit(4, w, 2), o.precommit(4, w, 3)},
	} {
		o.told("B1: "+what+" free nobody", joined(over, votes), gone)
		o.guilty("B2: "+what+" free nobody", gone, votes, api.OK)
	}

	o.told("the same block", append(locked, o.prevote(6, v, 4)))
	o.told("none is no other block", append(locked, o.prevote(6, none, 4)))
	o.told("none is no lock", []api.Vote{o.precommit(3, none, 4), o.prevote(6, w, 4)})
	o.told("a prevote of its round", append(locked, o.prevote(3, w, 4)))
	o.told("a prevote ahead of it", append(locked, o.prevote(2, w, 4)))
	o.told("another member's", append(locked, o.prevote(6, w, 5)))
	o.told("B1: the next round", append(locked, o.prevote(4, w, 4)), forget(o.precommit(3, v, 4), o.prevote(4, w, 4)))
	o.told("B1: the next round with a polka", joined(locked, o.prevotes(4, w, 4), o.prevotes(3, w, all...)))
	o.told("B1: the first and the last round", []api.Vote{o.precommit(0, v, 4), o.prevote(api.MaxRound, w, 4)}, forget(o.precommit(0, v, 4), o.prevote(api.MaxRound, w, 4)))
	o.told("B1: a polka of the first round", joined([]api.Vote{o.precommit(0, v, 4), o.prevote(api.MaxRound, w, 4)}, o.prevotes(0, w, all...)))
	o.told("B1: a polka of the last round but one", joined([]api.Vote{o.precommit(0, v, 4), o.prevote(api.MaxRound, w, 4)}, o.prevotes(api.MaxRound-1, w, all...)))
}

// TestLeast: of several that a member has forgotten that one is told that the chapter says.
func TestLeast(t *testing.T) {
	o := newAside(t)
	all := []api.Addr{1, 2, 3}
	c := func(round int, id api.Hash) api.Vote { return o.precommit(round, id, 4) }
	p := func(round int, id api.Hash) api.Vote { return o.prevote(round, id, 4) }
	o.told("B1: the least r", []api.Vote{c(3, v), c(2, v), c(4, x), p(7, w), p(6, w)}, forget(c(2, v), p(6, w)))
	o.told("B1: the least r, though its s is later", joined([]api.Vote{c(1, v), c(3, x), p(4, v), p(8, w)}, o.prevotes(2, v, all...)), forget(c(1, v), p(8, w)))
	o.told("B1: a free one between", joined([]api.Vote{c(1, v), p(3, w), p(5, x), p(6, w)}, o.prevotes(2, w, all...)), forget(c(1, v), p(5, x)))
	o.told("B1: freed by one polka, not by another", joined([]api.Vote{c(1, v), c(4, v), p(3, w), p(6, w)}, o.prevotes(2, w, all...)), forget(c(4, v), p(6, w)))
	o.told("B1: a long row of the same block", []api.Vote{c(0, v), c(1, v), c(2, v), c(3, w), c(4, v), p(9, v), p(8, v)}, forget(c(3, w), p(8, v)))
	o.told("B1: a row of the same block, up to the end", []api.Vote{c(0, v), c(1, v), c(2, v), p(9, v), p(8, v)})
	o.told("B1: another block, too late", []api.Vote{c(0, v), c(1, v), c(7, w), p(6, v), p(7, v)})
	o.told("B1: twice is told rather", []api.Vote{c(1, v), p(3, w), p(8, v), p(8, w)}, twice(p(8, v), p(8, w)))
	o.told("B1: twice is told rather, the least r aside", []api.Vote{c(1, v), c(1, x), p(3, w)}, twice(c(1, v), c(1, x)))
	o.told("B1: each by itself", []api.Vote{c(1, v), p(3, w), o.prevote(2, none, 5), o.prevote(2, v, 5), o.precommit(3, w, 6), o.prevote(4, v, 6)},
		forget(c(1, v), p(3, w)), twice(o.prevote(2, none, 5), o.prevote(2, v, 5)), forget(o.precommit(3, w, 6), o.prevote(4, v, 6)))
}

// TestPolkaPowers: a polka is a quorum, by the members' powers, each counted once.
func TestPolkaPowers(t *testing.T) {
	for _, row := range []struct {
		powers []uint64 // the last one is the member whose reason is asked for
		by     []api.Addr
		polka  bool
	}{
		{[]uint64{1, 1, 1, 1}, []api.Addr{1, 2, 3}, true},
		{[]uint64{1, 1, 1, 1}, []api.Addr{1, 2}, false},
		{[]uint64{1, 1, 1}, []api.Addr{1, 2}, false},
		{[]uint64{2, 2, 1}, []api.Addr{1, 2}, true},
		{[]uint64{5, 3, 1}, []api.Addr{1, 3}, false},
		{[]uint64{5, 3, 1}, []api.Addr{1, 2}, true},
		{[]uint64{api.MaxSupply - 2, 1, 1}, []api.Addr{1}, true},
		{[]uint64{1, 1, api.MaxSupply - 2}, []api.Addr{1, 2}, false},
		{[]uint64{1, 1, api.MaxSupply - 2}, []api.Addr{3}, true},
	} {
		o := newWorld(t, row.powers...)
		last := api.Addr(len(row.powers))
		g := forget(o.precommit(1, v, last), o.prevote(3, w, last))
		want := map[bool]api.Errno{true: api.ErrPair, false: api.OK}[row.polka]
		once := o.prevotes(2, w, row.by...)
		o.guilty(fmt.Sprint("B2: of ", row.powers, " by ", row.by), g, once, want)
		o.guilty(fmt.Sprint("P17.5: of ", row.powers, " by ", row.by, " often"), g, joined(once, once, once, once, once), want)
	}
}

// TestManyRounds: a member that stays with its block in all rounds, one that has a reason in all of them, and one that forgets in the last one alone are told apart without each vote being held against each other one.
func TestManyRounds(t *testing.T) {
	o := newAside(t)
	const first = api.MaxRound - 1<<14
	numbered := func(round int) (h api.Hash) {
		h[0], h[30], h[31] = 50, byte(round>>8), byte(round)
		return h
	}
	var votes []api.Vote
	for round := first; round <= api.MaxRound; round++ {
		votes = append(votes, o.precommit(round, v, 4), o.prevote(round, v, 4))
		if round%16 == 0 { // a block of its own each time, with a polka ahead
			votes = append(votes, o.prevotes(round, numbered(round), 1, 2, 3)...)
			votes = append(votes, o.precommit(round, numbered(round), 5), o.prevote(round+1, numbered(round), 5))
		}
		votes = append(votes, o.precommit(round, v, 6), o.prevote(round, none, 6))
	}
	last := o.prevote(api.MaxRound, w, 6)
	o.want("B1", o.a, o.b, votes, o.blame("P17.3", o.a, o.b, nil)...)
	votes[len(votes)-1] = last
	o.want("B1", o.a, o.b, votes, append(o.blame("P17.3", o.a, o.b, nil), forget(o.precommit(first, v, 6), last))...)
}

// TestPassedOver: what does not count makes nobody guilty, and frees nobody.
func TestPassedOver(t *testing.T) {
	o := newAside(t)
	locked, over := o.precommit(3, v, 4), o.prevote(6, w, 4)
	stranger := o.sign(name, api.Vote{Kind: api.Prevote, Height: height, Round: 4, Id: w, From: 77})
	for what, change := range map[string]func(v *api.Vote){
		"no seal":          func(v *api.Vote) { v.Seal = api.Seal{} },
		"another seal":     func(v *api.Vote) { v.Seal[15]++ },
		"another height":   func(v *api.Vote) { v.Height++; *v = o.sign(name, *v) },
		"the height ahead": func(v *api.Vote) { v.Height--; *v = o.sign(name, *v) },
		"another chain":    func(v *api.Vote) { *v = o.sign("d", *v) },
		"another kind's seal": func(v *api.Vote) {
			v.Kind = 3 - v.Kind
			v.Time = 0
			s := o.sign(name, *v).Seal
			v.Kind = 3 - v.Kind
			v.Seal = s
		},
		"another round's seal":  func(v *api.Vote) { v.Round++; s := o.sign(name, *v).Seal; v.Round--; v.Seal = s },
		"another member's seal": func(v *api.Vote) { v.From++; s := o.sign(name, *v).Seal; v.From--; v.Seal = s },
		"no kind":               func(v *api.Vote) { v.Kind = 3 },
		"kind 0":                func(v *api.Vote) { v.Kind = 0 },
		"no round":              func(v *api.Vote) { v.Round = -1 },
		"a round too far":       func(v *api.Vote) { v.Round += api.MaxRound + 1 },
		"a prevote's time":      func(v *api.Vote) { v.Kind, v.Time = api.Prevote, 1 },
		"nobody":                func(v *api.Vote) { v.From = 0 },
		"no member":             func(v *api.Vote) { v.From = 77; *v = o.sign(name, *v) },
	} {
		bent := over
		change(&bent)
		o.told("passed over: "+what, []api.Vote{locked, bent})
		bent = locked
		change(&bent)
		o.told("passed over: "+what, []api.Vote{bent, over})
		bent = o.prevote(6, v, 4)
		change(&bent)
		o.told("passed over: "+what, []api.Vote{bent, over})
		polka := o.prevotes(4, w, 1, 2, 3)
		g := forget(locked, over)
		o.guilty("passed over: not yet: "+what, g, polka, api.ErrPair)
		change(&polka[1])
		o.told("passed over: "+what, joined(polka, []api.Vote{locked, over, stranger}), g)
		o.guilty("passed over: "+what, g, append(polka, stranger), api.OK)
	}
}

// TestMarksCount: marks count as the precommits that they are, in Blame alone.
func TestMarksCount(t *testing.T) {
	o := four(t)
	a, b := o.cert(0, v, 1, 2, 3), o.cert(3, w, 2, 3, 4)
	o.want("no prevotes, nobody", a, b, nil)
	o.want("B1: a mark and a vote", a, b, []api.Vote{o.precommit(0, w, 1), o.precommit(3, none, 4)},
		twice(o.precommit(0, v, 1), o.precommit(0, w, 1)), twice(o.precommit(3, none, 4), o.precommit(3, w, 4)))
	o.want("B1: a mark of the later one and a prevote", a, b, o.prevotes(4, v, 4, 1), forget(o.precommit(3, w, 4), o.prevote(4, v, 4)))
}

// TestOneRound is P17.3: whoever stands in both is named, and that is more than a third, whatever is shown.
func TestOneRound(t *testing.T) {
	for _, powers := range [][]uint64{{1}, {1, 1, 1, 1}, {1, 2, 3, 4, 5}, {7, 1, 1, 1, 1, 1}, {api.MaxSupply / 3, api.MaxSupply / 3, api.MaxSupply / 3}} {
		o := newWorld(t, powers...)
		total := council.Total(o.c)
		for left := range 1 << len(powers) {
			for right := range 1 << len(powers) {
				a, b := o.cert(4, w, members(left, len(powers))...), o.cert(4, v, members(right, len(powers))...)
				if len(a.Marks) == 0 || len(b.Marks) == 0 || 3*power(o.c, left) <= 2*total || 3*power(o.c, right) <= 2*total {
					continue
				}
				for _, votes := range [][]api.Vote{nil, o.prevotes(0, x, 1), joined(o.prevotes(2, none, 1), o.prevotes(2, v, 1))} {
					got := o.blame("P17.3", a, b, votes)
					var named int
					for _, g := range got {
						named |= 1 << (g.Addr - 1)
					}
					if both := left & right; named&both != both || 3*power(o.c, both) <= total || 3*blame.Power(o.c, got) <= total {
						t.Errorf("P17.3: %v by %b and %b: %b", powers, left, right, named)
					}
				}
			}
		}
	}
}

func members(set, n int) (list []api.Addr) {
	for k := range n {
		if set>>k&1 == 1 {
			list = append(list, api.Addr(k+1))
		}
	}
	return list
}

func power(c api.Council, set int) (sum uint64) {
	for k, m := range c.Members {
		if set>>k&1 == 1 {
			sum += m.Power
		}
	}
	return sum
}

// TestPower is B3.
func TestPower(t *testing.T) {
	o := newWorld(t, 1, 20, 300, api.MaxSupply-321)
	g := func(addrs ...api.Addr) (list []api.Guilt) {
		for _, a := range addrs {
			list = append(list, api.Guilt{Addr: a})
		}
		return list
	}
	for _, row := range []struct {
		list []api.Guilt
		want uint64
	}{
		{nil, 0}, {[]api.Guilt{}, 0}, {g(1), 1}, {g(2), 20}, {g(3), 300}, {g(3, 1), 301}, {g(2, 3, 2, 3, 2), 320},
		{g(0), 0}, {g(5), 0}, {g(5, 0, 1), 1}, {g(1, 2, 3, 4, 4, 4), api.MaxSupply},
		{[]api.Guilt{{Addr: 2, Kind: 99, A: api.Vote{From: 3, Round: -4}}}, 20},
		{[]api.Guilt{twice(o.prevote(0, v, 1), o.prevote(0, w, 1))}, 1},
	} {
		if got := blame.Power(o.c, row.list); got != row.want {
			t.Errorf("B3: %v: %d, want %d", row.list, got, row.want)
		}
	}
	for what, c := range map[string]api.Council{
		"nobody":           {},
		"no power":         {Members: []api.Member{{Addr: 1, Power: 5}, {Addr: 2}}},
		"not rising":       {Members: []api.Member{{Addr: 2, Power: 5}, {Addr: 1, Power: 5}}},
		"too much":         {Members: []api.Member{{Addr: 1, Power: 5}, {Addr: 2, Power: api.MaxSupply}}},
		"a priority of -8": {Members: []api.Member{{Addr: 1, Power: 1, Priority: -8}}},
	} {
		if got := blame.Power(c, g(1, 2)); got != 0 {
			t.Errorf("B3: %s: %d", what, got)
		}
	}
	if got := blame.Power(api.Council{Members: []api.Member{{Addr: 1, Power: 1, Priority: -7}}}, g(1)); got != 1 {
		t.Errorf("B3: a priority of -7: %d", got)
	}
}
