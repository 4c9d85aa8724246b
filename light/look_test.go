package light_test

import (
	"fmt"
	"math"
	"slices"
	"testing"

	"assent/api"
	"assent/light"
	"assent/seal"
)

// scene is a trusted block and one that is looked at.
type scene struct {
	p    api.Params
	name string
	r    *seal.Registry
	t, u api.LightBlock
	now  uint64
}

// fault is what is done to a scene while it is made.
type fault struct {
	step string // which of the chapter's it belongs to
	when int
	do   func(*scene)
}

// When a fault is done.
const (
	first   = iota // the headers have no digests yet
	ahead          // the council's digests are there, the id of the block ahead is not
	signing        // all but the certificate is there
	last           // all is there
)

// made is a scene in which nothing is wrong but the faults: the block of height 5, and one so many heights above it.
func (w *world) made(above uint64, faults ...fault) *scene {
	w.t.Helper()
	s := &scene{p: params, name: name, r: w.r, now: 70}
	s.t = api.LightBlock{Header: api.Header{Chain: name, Height: 5, Time: 50, Proposer: 1}, Council: seats(1, 2, 3)}
	s.u = api.LightBlock{Header: api.Header{Chain: name, Height: 5 + above, Time: 60, Proposer: 2}, Council: seats(1, 2, 3, 4)}
	do := func(when int) {
		for _, f := range faults {
			if f.when == when {
				f.do(s)
			}
		}
	}
	do(first)
	s.t.Header.Council, s.u.Header.Council = digestOf(w.t, s.t.Council), digestOf(w.t, s.u.Council)
	s.t.Header.Next = s.u.Header.Council
	do(ahead)
	s.u.Header.Last = idOf(w.t, s.t.Header)
	do(signing)
	s.u = w.block(s.u.Header, s.u.Council)
	do(last)
	return s
}

// ways are both ways of looking, with how far above the heights are that they are for.
var ways = []struct {
	name  string
	above uint64
	look  func(api.Params, string, *seal.Registry, api.LightBlock, api.LightBlock, uint64) api.Errno
}{{"Adjacent", 1, light.Adjacent}, {"Skipping", 3, light.Skipping}}

// allFaults are of every step of either way, in the steps' order.
func allFaults() []fault {
	// Another fault may have left no members, or no marks.
	member := func(change func(*api.Member)) func(*scene) {
		return lastOf(func(s *scene) []api.Member { return s.u.Council.Members }, change)
	}
	mark := func(change func(*api.Mark)) func(*scene) {
		return lastOf(func(s *scene) []api.Mark { return s.u.Cert.Marks }, change)
	}
	return []fault{
		{"nil", last, func(s *scene) { s.r = nil }},
		{"nil", last, func(s *scene) { s.r = &seal.Registry{} }},
		{"arg", last, func(s *scene) { s.now = api.MaxTime + 1 }},
		{"arg", last, func(s *scene) { s.p.Trusting = api.MaxTicks + 1 }},
		{"arg", last, func(s *scene) { s.p.Drift = api.MaxTicks + 1 }},
		{"height", last, func(s *scene) { s.t.Header.Height = s.u.Header.Height }},
		{"height", last, func(s *scene) { s.t.Header.Height = 9 }},
		{"height", last, func(s *scene) { s.t.Header.Time = api.MaxTime + 1 }},
		{"chain", last, func(s *scene) { s.name = "d" }},
		{"chain", last, func(s *scene) { s.u.Header.Chain = "" }},
		{"header", last, func(s *scene) { s.u.Header.Proposer = 0 }},
		{"header", last, func(s *scene) { s.u.Header.Time = api.MaxTime + 1 }},
		{"cert", last, func(s *scene) { slices.Reverse(s.u.Cert.Marks) }},
		{"cert", last, func(s *scene) { s.u.Cert.Round = -1 }},
		{"cert", last, func(s *scene) { s.u.Cert.Id = api.Hash{} }},
		{"cert", last, func(s *scene) { s.u.Cert.Marks = make([]api.Mark, api.MaxSeats+1) }},
		{"council", last, member(func(m *api.Member) { m.Priority = math.MinInt64 })},
		{"council", last, member(func(m *api.Member) { m.Power = 0 })},
		{"council", last, func(s *scene) { s.u.Council = api.Council{} }},
		{"council", last, func(s *scene) { slices.Reverse(s.u.Council.Members) }},
		{"seats", signing, func(s *scene) { s.u.Header.Council[31]++ }},
		{"seats", last, member(func(m *api.Member) { m.Power++ })},
		{"of", last, func(s *scene) { s.u.Cert.Height++ }},
		{"of", last, func(s *scene) { s.u.Cert.Id[0]++ }},
		{"of", last, func(s *scene) { s.u.Cert = api.Cert{} }},
		{"check", last, mark(func(m *api.Mark) { m.Index = 40 })},
		{"check", last, mark(func(m *api.Mark) { m.Seal[0]++ })},
		{"check", last, func(s *scene) { s.u.Cert.Round++ }},
		{"check", last, func(s *scene) { s.u.Cert.Marks = s.u.Cert.Marks[:min(1, len(s.u.Cert.Marks))] }},
		{"old", last, func(s *scene) { s.p.Trusting = 0 }},
		{"old", last, func(s *scene) { s.p.Trusting, s.t.Header.Time = 0, 0 }},
		{"time", first, func(s *scene) { s.u.Header.Time = 50 }},
		{"time", first, func(s *scene) { s.u.Header.Time = 40 }},
		{"ahead", last, func(s *scene) { s.now, s.p.Drift = 0, 0 }},
		{"ahead", last, func(s *scene) { s.now = 34 }},
		{"last", signing, func(s *scene) { s.u.Header.Last[31]++ }},
		{"last", last, func(s *scene) { s.t.Header.Proposer = 0 }},
		{"next", ahead, func(s *scene) { s.t.Header.Next[31]++ }},
		{"trust", first, func(s *scene) { s.t.Council = seats(6, 7, 8) }},
		{"trust", first, func(s *scene) { s.t.Council = seats(4, 7, 8) }},
		{"trust", ahead, func(s *scene) { s.t.Header.Council[0]++ }},
		{"trust", last, lastOf(func(s *scene) []api.Member { return s.t.Council.Members }, func(m *api.Member) { m.Priority = 22 })},
		{"trust", last, func(s *scene) { s.t.Council = api.Council{} }},
	}
}

// lastOf changes the last element of a list of a scene, if there is one.
func lastOf[T any](list func(*scene) []T, change func(*T)) func(*scene) {
	return func(s *scene) {
		if l := list(s); len(l) > 0 {
			change(&l[len(l)-1])
		}
	}
}

// TestOrder: each fault alone is refused, and of any two the one is told that the chapter names first.
func TestOrder(t *testing.T) {
	w := newWorld(t)
	for _, way := range ways {
		steps := []string{"nil", "arg", "height", "chain", "header", "cert", "council", "seats", "of", "check", "old", "time", "ahead"}
		if way.name == "Adjacent" {
			steps = append(steps, "last", "next")
		} else {
			steps = append(steps, "trust")
		}
		met := map[[2]string]bool{} // the first step that refuses, and another one that would
		look := func(faults ...fault) {
			t.Helper()
			s := w.made(way.above, faults...)
			got := way.look(s.p, s.name, s.r, s.t, s.u, s.now)
			wrong := modelWrong(way.name, *s)
			want := api.OK
			if len(wrong) > 0 {
				want = wrong[0].e
			}
			is(t, fmt.Sprint(way.name, " of ", faults, ": ", wrong), got, want)
			for _, x := range wrong {
				met[[2]string{wrong[0].step, x.step}] = true
			}
			for _, f := range faults {
				if slices.Contains(steps, f.step) && !slices.ContainsFunc(wrong, func(x modelFault) bool { return x.step == f.step }) && len(faults) == 1 {
					t.Errorf("%s: nothing is wrong by the step %s", way.name, f.step)
				}
			}
		}
		look()
		all := allFaults()
		for i, f := range all {
			look(f)
			for _, g := range all[i+1:] {
				look(f, g)
			}
		}
		for i, x := range steps {
			for _, y := range steps[i:] {
				if !met[[2]string{x, y}] {
					t.Errorf("%s: %s and %s were never wrong together", way.name, x, y)
				}
			}
		}
	}
}

// TestTimes: the edges of what is expired, ahead and not later.
func TestTimes(t *testing.T) {
	w := newWorld(t)
	for _, c := range []struct {
		trusting, drift, t, u, now uint64
		want                       api.Errno
	}{
		{100, 5, 10, 20, 109, api.OK},
		{100, 5, 10, 20, 110, api.ErrOld},
		{100, 5, 10, 20, 111, api.ErrOld},
		{0, 5, 10, 20, 10, api.ErrOld},
		{0, 5, 10, 12, 9, api.OK}, // a clock may be behind
		{1, 5, 10, 12, 10, api.OK},
		{100, 5, 10, 20, 15, api.OK},
		{100, 5, 10, 20, 14, api.ErrAhead},
		{100, 0, 10, 20, 20, api.OK},
		{100, 0, 10, 20, 19, api.ErrAhead},
		{100, 5, 0, 1, 0, api.OK},
		{100, 5, 0, 5, 0, api.OK},
		{100, 5, 0, 6, 0, api.ErrAhead},
		{100, 5, 10, 11, 10, api.OK},
		{100, 5, 10, 10, 10, api.ErrTime},
		{100, 5, 10, 9, 10, api.ErrTime},
		{100, 5, 10, 0, 10, api.ErrTime},
		{api.MaxTicks, api.MaxTicks, 10, 20, 0, api.OK},
		{api.MaxTicks, 0, 10, 20, 9 + api.MaxTicks, api.OK},
		{api.MaxTicks, 0, 10, 20, 10 + api.MaxTicks, api.ErrOld},
		{api.MaxTicks, api.MaxTicks, 10, 20 + api.MaxTicks, 20, api.OK},
		{api.MaxTicks, api.MaxTicks, 10, 21 + api.MaxTicks, 20, api.ErrAhead},
		{api.MaxTicks, api.MaxTicks, api.MaxTime - 1, api.MaxTime, api.MaxTime, api.OK},
		{api.MaxTicks, 0, api.MaxTime - api.MaxTicks, api.MaxTime, api.MaxTime, api.ErrOld},
		{api.MaxTicks, 0, api.MaxTime - api.MaxTicks + 1, api.MaxTime, api.MaxTime, api.OK},
		{api.MaxTicks, api.MaxTicks, 10, api.MaxTime, api.MaxTime - api.MaxTicks, api.ErrOld},
		{api.MaxTicks, api.MaxTicks, api.MaxTime - api.MaxTicks, api.MaxTime, api.MaxTime - api.MaxTicks, api.OK},
		{api.MaxTicks, api.MaxTicks, api.MaxTime - api.MaxTicks, api.MaxTime, api.MaxTime - api.MaxTicks - 1, api.ErrAhead},
		{api.MaxTicks, api.MaxTicks, api.MaxTime, api.MaxTime, api.MaxTime, api.ErrTime},
		{api.MaxTicks, api.MaxTicks, api.MaxTime + 1, api.MaxTime, api.MaxTime, api.ErrHeight},
		{api.MaxTicks, api.MaxTicks, math.MaxUint64, 5, 5, api.ErrHeight},
		{api.MaxTicks, api.MaxTicks, math.MaxUint64 - api.MaxTicks + 1, 5, 5, api.ErrHeight},
		{api.MaxTicks + 1, 5, 10, 20, 20, api.ErrArg},
		{5, api.MaxTicks + 1, 10, 20, 20, api.ErrArg},
		{math.MaxUint64, 5, 10, 20, 20, api.ErrArg},
		{5, math.MaxUint64, 10, 20, 20, api.ErrArg},
		{100, 5, 10, 20, api.MaxTime + 1, api.ErrArg},
		{100, 5, 10, 20, math.MaxUint64, api.ErrArg},
	} {
		for _, way := range ways {
			s := w.made(way.above, fault{"", first, func(s *scene) {
				s.t.Header.Time, s.u.Header.Time = min(c.t, api.MaxTime), c.u
			}}, fault{"", last, func(s *scene) { s.t.Header.Time = c.t }})
			s.p.Trusting, s.p.Drift = c.trusting, c.drift
			is(t, fmt.Sprint("P16.1, P16.2: ", way.name, " of ", c), way.look(s.p, s.name, s.r, s.t, s.u, c.now), c.want)
		}
	}
}

// TestHeights: which of two heights each way is for, up to the greatest numbers.
func TestHeights(t *testing.T) {
	w := newWorld(t)
	for _, c := range []struct {
		t, u           uint64
		next, skipping api.Errno
	}{
		{5, 6, api.OK, api.ErrHeight},
		{5, 7, api.ErrHeight, api.OK},
		{5, 8, api.ErrHeight, api.OK},
		{5, 5, api.ErrHeight, api.ErrHeight},
		{5, 4, api.ErrHeight, api.ErrHeight},
		{5, 1, api.ErrHeight, api.ErrHeight},
		{5, 0, api.ErrHeight, api.ErrHeight},
		{5, api.MaxHeight, api.ErrHeight, api.OK},
		{5, api.MaxHeight + 1, api.ErrHeight, api.ErrField},
		{5, math.MaxUint64, api.ErrHeight, api.ErrField},
		{1, api.MaxHeight, api.ErrHeight, api.OK},
		{0, 1, api.ErrLast, api.ErrHeight}, // no header of height 0 has an id
		{0, 2, api.ErrHeight, api.OK},
		{0, 0, api.ErrHeight, api.ErrHeight},
		{api.MaxHeight - 1, api.MaxHeight, api.OK, api.ErrHeight},
		{api.MaxHeight - 2, api.MaxHeight, api.ErrHeight, api.OK},
		{api.MaxHeight - 1, api.MaxHeight + 1, api.ErrHeight, api.ErrField},
		{api.MaxHeight, api.MaxHeight + 1, api.ErrField, api.ErrHeight},
		{api.MaxHeight, api.MaxHeight + 2, api.ErrHeight, api.ErrField},
		{api.MaxHeight, api.MaxHeight, api.ErrHeight, api.ErrHeight},
		{api.MaxHeight + 1, api.MaxHeight + 2, api.ErrHeight, api.ErrHeight},
		{api.MaxHeight + 1, api.MaxHeight + 3, api.ErrHeight, api.ErrHeight},
		{api.MaxHeight + 1, math.MaxUint64, api.ErrHeight, api.ErrHeight},
		{math.MaxUint64, 0, api.ErrHeight, api.ErrHeight},
		{math.MaxUint64, 1, api.ErrHeight, api.ErrHeight},
		{math.MaxUint64, 5, api.ErrHeight, api.ErrHeight},
		{math.MaxUint64 - 1, 0, api.ErrHeight, api.ErrHeight},
		{math.MaxUint64 - 1, 7, api.ErrHeight, api.ErrHeight},
		{math.MaxUint64 - 1, math.MaxUint64, api.ErrHeight, api.ErrHeight},
	} {
		for _, way := range ways {
			plain := func(h uint64) uint64 { return max(1, min(h, api.MaxHeight)) }
			s := w.made(1, fault{"", first, func(s *scene) {
				s.t.Header.Height, s.u.Header.Height = plain(c.t), plain(c.u)
			}}, fault{"", last, func(s *scene) {
				s.t.Header.Height, s.u.Header.Height = c.t, c.u
			}})
			want := c.next
			if way.name == "Skipping" {
				want = c.skipping
			}
			is(t, fmt.Sprint("P16.1, P16.2: ", way.name, " of ", c.t, " and ", c.u), way.look(s.p, s.name, s.r, s.t, s.u, s.now), want)
		}
	}
}

// TestWholeRefusals: which error each thing that is wrong with a light block is told by, to both ways and to New.
func TestWholeRefusals(t *testing.T) {
	w := newWorld(t)
	other := func(change func(*api.Cert, *scene)) func(*scene) {
		return func(s *scene) { change(&s.u.Cert, s) }
	}
	for _, c := range []struct {
		what string
		when int
		do   func(*scene)
		want api.Errno
	}{
		{"nothing", last, func(*scene) {}, api.OK},
		{"another chain's", last, func(s *scene) { s.u.Header.Chain = "C" }, api.ErrChain},
		{"a longer name", last, func(s *scene) { s.u.Header.Chain = "cc" }, api.ErrChain},
		{"no name, and none is asked for", last, func(s *scene) { s.name, s.u.Header.Chain = "", "" }, api.ErrField},
		{"a name of 17 letters", last, func(s *scene) { s.name, s.u.Header.Chain = "seventeen letters", "seventeen letters" }, api.ErrField},
		{"signed for another chain", last, other(func(x *api.Cert, s *scene) {
			for k, m := range s.u.Council.Members {
				x.Marks[k] = w.mark("d", *x, k, m.Addr, 61)
			}
		}), api.ErrSeal},
		{"no proposer", last, func(s *scene) { s.u.Header.Proposer = 0 }, api.ErrField},
		{"a time above the limit", last, func(s *scene) { s.u.Header.Time = api.MaxTime + 1 }, api.ErrField},
		{"a round above the limit", last, func(s *scene) { s.u.Cert.Round = api.MaxRound + 1 }, api.ErrField},
		{"a certificate for none", last, func(s *scene) { s.u.Cert.Id = api.Hash{} }, api.ErrField},
		{"65 marks", last, func(s *scene) { s.u.Cert.Marks = make([]api.Mark, 65) }, api.ErrBig},
		{"a mark's place below 0", last, func(s *scene) { s.u.Cert.Marks[0].Index = -1 }, api.ErrField},
		{"a mark's place 64", last, func(s *scene) { s.u.Cert.Marks[3].Index = 64 }, api.ErrField},
		{"a mark twice", last, func(s *scene) { s.u.Cert.Marks[1] = s.u.Cert.Marks[0] }, api.ErrOrder},
		{"nobody", last, func(s *scene) { s.u.Council.Members = nil }, api.ErrEmpty},
		{"an empty list", last, func(s *scene) { s.u.Council.Members = []api.Member{} }, api.ErrEmpty},
		{"65 members", last, func(s *scene) { s.u.Council.Members = make([]api.Member, 65) }, api.ErrBig},
		{"the member 0", last, func(s *scene) { s.u.Council.Members[0].Addr = 0 }, api.ErrNobody},
		{"a member twice", last, func(s *scene) { s.u.Council.Members[1].Addr = 1 }, api.ErrDouble},
		{"no power", last, func(s *scene) { s.u.Council.Members[2].Power = 0 }, api.ErrPower},
		{"too much power", last, func(s *scene) { s.u.Council.Members[2].Power = api.MaxSupply + 1 }, api.ErrPower},
		{"together too much", last, func(s *scene) { s.u.Council.Members[2].Power = api.MaxSupply }, api.ErrTotal},
		{"a priority too high", last, func(s *scene) { s.u.Council.Members[2].Priority = 29 }, api.ErrArg},
		{"another priority", last, func(s *scene) { s.u.Council.Members[2].Priority = -28 }, api.OK},
		{"another power", last, func(s *scene) { s.u.Council.Members[2].Power = 2 }, api.ErrSeats},
		{"another member", last, func(s *scene) { s.u.Council.Members[3].Addr = 5 }, api.ErrSeats},
		{"a member less", last, func(s *scene) { s.u.Council.Members = s.u.Council.Members[:3] }, api.ErrSeats},
		{"another digest", signing, func(s *scene) { s.u.Header.Council = digestOf(t, seats(1, 2, 3)) }, api.ErrSeats},
		{"another height's certificate", last, func(s *scene) { s.u.Cert.Height-- }, api.ErrCert},
		{"another block's certificate", last, func(s *scene) { s.u.Cert.Id[31]++ }, api.ErrCert},
		{"another header", last, func(s *scene) { s.u.Header.State[0]++ }, api.ErrCert},
		{"the zero certificate", last, func(s *scene) { s.u.Cert = api.Cert{} }, api.ErrCert},
		{"a mark of nobody", last, func(s *scene) { s.u.Cert.Marks[3].Index = 4 }, api.ErrMember},
		{"another's seal", last, func(s *scene) { s.u.Cert.Marks[1].Seal = s.u.Cert.Marks[2].Seal }, api.ErrSeal},
		{"another time", last, func(s *scene) { s.u.Cert.Marks[3].Time++ }, api.ErrSeal},
		{"another round", last, func(s *scene) { s.u.Cert.Round++ }, api.ErrSeal},
		{"signed in another round, all", last, func(s *scene) { s.u.Cert = w.cert(s.u.Header, 7, s.u.Council, 1, 2, 3, 4) }, api.OK},
		{"three of four", last, func(s *scene) { s.u.Cert.Marks = s.u.Cert.Marks[1:] }, api.OK},
		{"two of four", last, func(s *scene) { s.u.Cert.Marks = s.u.Cert.Marks[2:] }, api.ErrQuorum},
		{"none of four", last, func(s *scene) { s.u.Cert.Marks = nil }, api.ErrQuorum},
	} {
		for _, way := range ways {
			s := w.made(way.above, fault{"", c.when, c.do})
			is(t, "a whole light block: "+c.what+": "+way.name, way.look(s.p, s.name, s.r, s.t, s.u, s.now), c.want)
			client, e := light.New(s.p, s.name, s.r, s.u, s.now)
			is(t, "P16.3: "+c.what, e, c.want)
			if (client == nil) != (e != api.OK) {
				t.Errorf("G2: %s: error %d, and a client: %v", c.what, e, client != nil)
			}
		}
	}
}

// TestQuorum: Adjacent asks for two thirds of the council that the trusted header names, by that council's powers.
func TestQuorum(t *testing.T) {
	w := newWorld(t)
	for _, c := range []struct {
		powers []uint64
		by     []api.Addr
		want   api.Errno
	}{
		{[]uint64{1}, []api.Addr{1}, api.OK},
		{[]uint64{1, 1}, []api.Addr{1}, api.ErrQuorum},
		{[]uint64{1, 1, 1}, []api.Addr{2, 3}, api.ErrQuorum},
		{[]uint64{1, 1, 1, 1}, []api.Addr{1, 2, 4}, api.OK},
		{[]uint64{2, 1}, []api.Addr{1}, api.ErrQuorum},
		{[]uint64{3, 1}, []api.Addr{1}, api.OK},
		{[]uint64{3, 1}, []api.Addr{2}, api.ErrQuorum},
		{[]uint64{1 << 59, 1 << 58, 1 << 57}, []api.Addr{1}, api.ErrQuorum},
		{[]uint64{1 << 59, 1 << 58, 1 << 57}, []api.Addr{1, 3}, api.OK},
		{[]uint64{api.MaxSupply}, []api.Addr{1}, api.OK},
	} {
		for _, way := range ways {
			s := w.made(way.above, fault{"", first, func(s *scene) {
				s.t.Council, s.u.Council = seats(c.by...), api.Council{}
				for k, p := range c.powers {
					s.u.Council.Members = append(s.u.Council.Members, api.Member{Addr: api.Addr(k + 1), Power: p})
				}
			}}, fault{"", last, func(s *scene) { s.u.Cert = w.cert(s.u.Header, 0, s.u.Council, c.by...) }})
			is(t, fmt.Sprint("P16.8: ", way.name, ": ", c), way.look(s.p, s.name, s.r, s.t, s.u, s.now), c.want)
		}
	}
}

// TestThird: Skipping asks for more than a third of the trusted council, by its own powers, of those who have signed.
func TestThird(t *testing.T) {
	w := newWorld(t)
	for _, c := range []struct {
		trusted, seated []uint64 // by address, from 1 on; 0: no member
		by              []api.Addr
		want            api.Errno
	}{
		{[]uint64{1, 1, 1}, []uint64{1, 0, 0, 1, 1}, []api.Addr{1, 4, 5}, api.ErrTrust}, // just a third
		{[]uint64{1, 1, 1}, []uint64{0, 1, 1, 0, 1}, []api.Addr{2, 3, 5}, api.OK},
		{[]uint64{1, 1, 1, 1}, []uint64{0, 0, 0, 1, 1}, []api.Addr{4, 5}, api.ErrTrust},
		{[]uint64{1, 1, 1, 1}, []uint64{0, 0, 1, 1, 1}, []api.Addr{3, 4, 5}, api.OK},
		{[]uint64{1, 1, 1, 1, 1}, []uint64{0, 1, 0, 0, 1}, []api.Addr{2, 5}, api.OK},             // 2 of 5
		{[]uint64{1, 1, 1, 1, 1, 1}, []uint64{0, 1, 0, 0, 1}, []api.Addr{2, 5}, api.ErrTrust},    // 2 of 6
		{[]uint64{2, 1, 1, 1}, []uint64{1, 0, 0, 0, 9}, []api.Addr{1, 5}, api.OK},                // 2 of 5, though 1 of 10
		{[]uint64{2, 1, 1, 1}, []uint64{0, 9, 0, 0, 1}, []api.Addr{2, 5}, api.ErrTrust},          // 1 of 5, though 9 of 10
		{[]uint64{2, 1, 1, 1}, []uint64{2, 0, 0, 0, 9, 9, 9}, []api.Addr{5, 6, 7}, api.ErrTrust}, // 1 sits there, and has not signed
		{[]uint64{1}, []uint64{1, 9}, []api.Addr{1, 2}, api.OK},
		{[]uint64{1}, []uint64{1, 9}, []api.Addr{2}, api.ErrTrust},
		{[]uint64{0, 0, 0, 1, 1, 1}, []uint64{0, 0, 1, 1, 1, 0}, []api.Addr{3, 4, 5}, api.OK}, // at other places
		{[]uint64{0, 0, 0, 1, 1, 1}, []uint64{1, 1, 1, 1}, []api.Addr{1, 2, 3, 4}, api.ErrTrust},
		{[]uint64{1 << 59, 1 << 58, 1 << 57}, []uint64{0, 0, 1, 1}, []api.Addr{3, 4}, api.ErrTrust},
		{[]uint64{1 << 59, 1 << 58, 1 << 57}, []uint64{0, 1, 1, 1}, []api.Addr{2, 3, 4}, api.OK},
		{[]uint64{api.MaxSupply / 3, api.MaxSupply / 3, api.MaxSupply / 3}, []uint64{1, 0, 0, 1}, []api.Addr{1, 4}, api.ErrTrust},
		{[]uint64{api.MaxSupply/3 + 1, api.MaxSupply / 3, api.MaxSupply/3 - 1}, []uint64{1, 0, 0, 1}, []api.Addr{1, 4}, api.OK},
	} {
		seated := func(powers []uint64) (c api.Council) {
			for k, p := range powers {
				if p > 0 {
					c.Members = append(c.Members, api.Member{Addr: api.Addr(k + 1), Power: p})
				}
			}
			return c
		}
		s := w.made(2, fault{"", first, func(s *scene) {
			s.t.Council, s.u.Council = seated(c.trusted), seated(c.seated)
		}}, fault{"", last, func(s *scene) { s.u.Cert = w.cert(s.u.Header, 0, s.u.Council, c.by...) }})
		is(t, fmt.Sprint("P16.2: ", c), light.Skipping(s.p, s.name, s.r, s.t, s.u, s.now), c.want)
	}
}

// TestOfTNothingElse: what a way does not ask of the trusted block may be anything.
func TestOfTNothingElse(t *testing.T) {
	w := newWorld(t)
	wild := api.Council{Members: []api.Member{{Addr: 9, Power: math.MaxUint64}, {Addr: 9, Priority: math.MinInt64}}}
	s := w.made(1, fault{"", ahead, func(s *scene) {
		s.t.Header.Chain = "another"
		s.t.Header.Council = api.Hash{7}
		s.t.Cert = api.Cert{Height: math.MaxUint64, Round: -7, Marks: []api.Mark{{Index: -1}}}
		s.t.Council = wild
	}})
	is(t, "P16.1", light.Adjacent(s.p, s.name, s.r, s.t, s.u, s.now), api.OK)
	s.t.Header.Chain = "a name that is too long"
	is(t, "P16.1: no id", light.Adjacent(s.p, s.name, s.r, s.t, s.u, s.now), api.ErrLast)

	s = w.made(3, fault{"", last, func(s *scene) {
		seats, time := s.t.Header.Council, s.t.Header.Time
		s.t.Header = api.Header{Chain: "a name that is too long", Height: 0, Time: time, Council: seats, Next: api.Hash{1}}
		s.t.Cert = api.Cert{Height: 3, Round: -7, Marks: []api.Mark{{Index: -1}}}
		s.t.Council.Members[2].Priority = -21
	}})
	is(t, "P16.2", light.Skipping(s.p, s.name, s.r, s.t, s.u, s.now), api.OK)
	s.u.Header.Last, s.u.Header.Next = api.Hash{1}, api.Hash{2} // which block is ahead, and who is next, Skipping can't know
	s.u = w.block(s.u.Header, s.u.Council)
	is(t, "P16.2", light.Skipping(s.p, s.name, s.r, s.t, s.u, s.now), api.OK)
	s.t.Council = wild
	is(t, "P16.2: no council", light.Skipping(s.p, s.name, s.r, s.t, s.u, s.now), api.ErrTrust)
}

// TestZeroHash: it is the id of no block and the digest of no council, though what has none is given beside it.
func TestZeroHash(t *testing.T) {
	w := newWorld(t)
	s := w.made(1, fault{"", signing, func(s *scene) { s.u.Header.Last = api.Hash{} }}, fault{"", last, func(s *scene) { s.t.Header.Proposer = 0 }})
	is(t, "P16.1: t has no id", light.Adjacent(s.p, s.name, s.r, s.t, s.u, s.now), api.ErrLast)
	for what, c := range map[string]api.Council{"nobody": {}, "nobody's power": {Members: []api.Member{{Addr: 1}}}} {
		s = w.made(3)
		s.t.Council, s.t.Header.Council = c, api.Hash{}
		is(t, "P16.2: "+what, light.Skipping(s.p, s.name, s.r, s.t, s.u, s.now), api.ErrTrust)
	}
	s = w.made(1, fault{"", signing, func(s *scene) { s.u.Header.Council = api.Hash{} }}, fault{"", last, func(s *scene) { s.u.Council = api.Council{} }})
	is(t, "a whole light block", light.Adjacent(s.p, s.name, s.r, s.t, s.u, s.now), api.ErrEmpty)
}

// TestParamsElse: of the parameters only two count.
func TestParamsElse(t *testing.T) {
	w := newWorld(t)
	wild := api.Params{MinBond: math.MaxUint64, Seats: -1, Slash: math.MaxUint64, Period: 0, Age: math.MaxUint64, MaxTxs: math.MinInt, Propose: math.MaxUint64, Votes: math.MaxUint64, Pause: math.MaxUint64, Resend: math.MaxUint64, Trusting: 100, Drift: 5}
	for _, way := range ways {
		s := w.made(way.above)
		is(t, "P16.1, P16.2: "+way.name, way.look(wild, s.name, s.r, s.t, s.u, s.now), api.OK)
		is(t, "P16.1, P16.2: "+way.name+" by another book", way.look(wild, s.name, seal.New(), s.t, s.u, s.now), api.ErrSeal)
	}
}
