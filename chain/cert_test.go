package chain_test

import (
	"fmt"
	"math"
	"math/rand"
	"slices"
	"testing"

	"assent/api"
	"assent/chain"
	"assent/council"
	"assent/seal"
	"assent/wire"
)

// councilOf has the members 11, 12, .. of these powers.
func councilOf(powers ...uint64) (c api.Council) {
	for k, p := range powers {
		c.Members = append(c.Members, api.Member{Addr: api.Addr(k + 11), Power: p})
	}
	return c
}

// noCouncils are councils that council.Sound refuses, with its errors.
func noCouncils() map[api.Errno]api.Council {
	twice := councilOf(1, 1)
	twice.Members[1].Addr = 11
	nobody := councilOf(1, 1)
	nobody.Members[0].Addr = 0
	far := councilOf(1, 1)
	far.Members[1].Priority = 15
	return map[api.Errno]api.Council{
		api.ErrEmpty:  {},
		api.ErrBig:    councilOf(slices.Repeat([]uint64{1}, 65)...),
		api.ErrNobody: nobody,
		api.ErrDouble: twice,
		api.ErrPower:  councilOf(1, 0),
		api.ErrTotal:  councilOf(api.MaxSupply, 1),
		api.ErrArg:    far,
	}
}

// marked is a certificate without seals: the marks' places and times.
func marked(marks ...api.Mark) api.Cert { return api.Cert{Height: 7, Id: api.Hash{1}, Marks: marks} }

// noCerts are certificates that are not plain, with wire's errors. Places are no members' mostly.
func noCerts() map[string]struct {
	x    api.Cert
	want api.Errno
} {
	type c = struct {
		x    api.Cert
		want api.Errno
	}
	many := api.Cert{Height: 7, Id: api.Hash{1}}
	for k := range 65 {
		many.Marks = append(many.Marks, api.Mark{Index: k})
	}
	return map[string]c{
		"no height":          {api.Cert{Id: api.Hash{1}, Marks: []api.Mark{{}}}, api.ErrField},
		"too high":           {api.Cert{Height: api.MaxHeight + 1, Id: api.Hash{1}}, api.ErrField},
		"no id":              {api.Cert{Height: 7}, api.ErrField},
		"no id, but marks":   {api.Cert{Marks: []api.Mark{{}}}, api.ErrField},
		"round -1":           {api.Cert{Height: 7, Round: -1, Id: api.Hash{1}}, api.ErrField},
		"a round alone":      {api.Cert{Round: 1}, api.ErrField},
		"too late a round":   {api.Cert{Height: 7, Round: api.MaxRound + 1, Id: api.Hash{1}}, api.ErrField},
		"too many marks":     {many, api.ErrBig},
		"place -1":           {marked(api.Mark{Index: -1}), api.ErrField},
		"the least place":    {marked(api.Mark{Index: math.MinInt}), api.ErrField},
		"place 64":           {marked(api.Mark{Index: 64}), api.ErrField},
		"the greatest place": {marked(api.Mark{Index: math.MaxInt}), api.ErrField},
		"too late":           {marked(api.Mark{Time: api.MaxTime + 1}), api.ErrField},
		"the same twice":     {marked(api.Mark{Index: 1}, api.Mark{Index: 1}), api.ErrOrder},
		"turned about":       {marked(api.Mark{Index: 63}, api.Mark{Index: 1}), api.ErrOrder},
	}
}

func wantMedian(t *testing.T, what string, c api.Council, x api.Cert, want uint64, refusal api.Errno) {
	t.Helper()
	if got, e := chain.Median(c, x); got != want || e != refusal {
		t.Errorf("C2: %s: %d, error %d, want %d, error %d", what, got, e, want, refusal)
	}
}

// TestMedianOrder: the council's errors ahead of the certificate's, these ahead of ErrCert, that ahead of ErrMember.
func TestMedianOrder(t *testing.T) {
	c := councilOf(1, 1, 1)
	for what, x := range noCerts() {
		wantMedian(t, what, c, x.x, 0, x.want)
		for e, no := range noCouncils() {
			wantMedian(t, fmt.Sprint(what, ", no council ", e), no, x.x, 0, e)
		}
	}
	for e, no := range noCouncils() {
		wantMedian(t, fmt.Sprint("no council ", e), no, marked(api.Mark{Time: 5}), 0, e)
		wantMedian(t, fmt.Sprint("no council, no marks ", e), no, api.Cert{}, 0, e)
	}
	for _, none := range [][]api.Mark{nil, {}} {
		wantMedian(t, "the zero certificate", c, api.Cert{Marks: none}, 0, api.ErrCert)
		wantMedian(t, "no marks", c, marked(none...), 0, api.ErrCert)
	}
	wantMedian(t, "no member's place", c, marked(api.Mark{Index: 3, Time: 4}), 0, api.ErrMember)
	wantMedian(t, "no member's place behind others", c, marked(api.Mark{Index: 0, Time: 4}, api.Mark{Index: 2, Time: 4}, api.Mark{Index: 63, Time: 4}), 0, api.ErrMember)
	wantMedian(t, "the last member's place", c, marked(api.Mark{Index: 2, Time: 4}), 4, api.OK)
}

func TestMedianEdges(t *testing.T) {
	wantMedian(t, "at no time", councilOf(3), marked(api.Mark{}), 0, api.OK)
	wantMedian(t, "at the last time", councilOf(3), marked(api.Mark{Time: api.MaxTime}), api.MaxTime, api.OK)
	half := councilOf(5, 5)
	wantMedian(t, "just half is not above", half, marked(api.Mark{Time: 5}, api.Mark{Index: 1, Time: 9}), 9, api.OK)
	wantMedian(t, "just half, turned about", half, marked(api.Mark{Time: 9}, api.Mark{Index: 1, Time: 5}), 9, api.OK)
	wantMedian(t, "one above half", councilOf(6, 5), marked(api.Mark{Time: 5}, api.Mark{Index: 1, Time: 9}), 5, api.OK)
	wantMedian(t, "one below half", councilOf(5, 6), marked(api.Mark{Time: 5}, api.Mark{Index: 1, Time: 9}), 9, api.OK)
	great := councilOf(api.MaxSupply/2, api.MaxSupply/2+1)
	wantMedian(t, "all the power that there is", great, marked(api.Mark{Time: 5}, api.Mark{Index: 1, Time: 9}), 9, api.OK)
	wantMedian(t, "all the power, turned about", great, marked(api.Mark{Time: 9}, api.Mark{Index: 1, Time: 5}), 5, api.OK)
	one := councilOf(1, 1, 1, 100)
	wantMedian(t, "who has not marked does not count", one, marked(api.Mark{Time: 3}, api.Mark{Index: 1, Time: 2}, api.Mark{Index: 2, Time: 1}), 2, api.OK)
	wantMedian(t, "one time has the power of all its marks", councilOf(2, 2, 3, 2), marked(api.Mark{Time: 8}, api.Mark{Index: 1, Time: 4}, api.Mark{Index: 2, Time: 9}, api.Mark{Index: 3, Time: 4}), 8, api.OK)
	// Seals, heights, rounds and ids are not looked at, as long as they are plain.
	x := marked(api.Mark{Time: 3, Seal: api.Seal{9}})
	x.Height, x.Round, x.Id = api.MaxHeight, api.MaxRound, api.Hash{31: 1}
	wantMedian(t, "whatever block it is of", councilOf(1), x, 3, api.OK)
}

// modelMedian tries every time that stands there, as the rule's words say.
func modelMedian(c api.Council, x api.Cert) uint64 {
	var all uint64
	for _, m := range x.Marks {
		all += c.Members[m.Index].Power
	}
	least := uint64(math.MaxUint64)
	for _, t := range x.Marks {
		var upTo uint64
		for _, m := range x.Marks {
			if m.Time <= t.Time {
				upTo += c.Members[m.Index].Power
			}
		}
		if 2*upTo > all && t.Time < least {
			least = t.Time
		}
	}
	return least
}

func someCouncil(r *rand.Rand, most int) api.Council {
	powers := make([]uint64, 1+r.Intn(most))
	for k := range powers {
		powers[k] = uint64(1 + r.Intn(9))
		if r.Intn(20) == 0 {
			powers[k] = api.MaxSupply / 64
		}
	}
	return councilOf(powers...)
}

func someMarks(r *rand.Rand, c api.Council) (x api.Cert) {
	x = marked()
	for k := range c.Members {
		if r.Intn(4) > 0 {
			x.Marks = append(x.Marks, api.Mark{Index: k, Time: uint64(r.Intn(8))})
		}
	}
	return x
}

// TestMedianByWords: by another hand; and P12.5: whoever lies, with less than half of the marks' power, it stays among the others' times.
func TestMedianByWords(t *testing.T) {
	r := rand.New(rand.NewSource(121))
	among := 0
	for range 3000 {
		c := someCouncil(r, 9)
		x := someMarks(r, c)
		if len(x.Marks) == 0 {
			continue
		}
		got, e := chain.Median(c, x)
		if want := modelMedian(c, x); got != want || e != api.OK {
			t.Fatalf("C2: %v by %v: %d, error %d, want %d", x.Marks, c, got, e, want)
		}
		var all, aside uint64
		least, most := uint64(math.MaxUint64), uint64(0)
		for _, m := range x.Marks {
			power := c.Members[m.Index].Power
			all += power
			if r.Intn(3) == 0 {
				aside += power
				continue
			}
			least, most = min(least, m.Time), max(most, m.Time)
		}
		if 2*aside < all {
			among++
			if got < least || got > most {
				t.Fatalf("P12.5: %v by %v: %d is not from %d to %d", x.Marks, c, got, least, most)
			}
		}
	}
	if among < 500 {
		t.Errorf("only %d were held against the others' times", among)
	}
}

// certWorld is a registry and a certificate of height 7 by all of a council, at unlike times.
func certWorld(t *testing.T, c api.Council) (*world, api.Cert) {
	w := &world{t: t, r: seal.New(), signers: map[api.Addr]*seal.Signer{}, st: api.State{Chain: name}}
	return w, w.certBy(c, 7, 3, api.Hash{1}, upTo(len(c.Members)), func(k int) uint64 { return 1000 + uint64(k) })
}

func (w *world) check(what string, c api.Council, chainName string, x api.Cert, want api.Errno) {
	w.t.Helper()
	if e := chain.CheckCert(c, w.r, chainName, x); e != want {
		w.t.Errorf("C3: %s: error %d, want %d", what, e, want)
	}
}

// TestCheckOrder: the council's errors, the certificate's, ErrCert, ErrMember, what a vote is refused for, ErrSeal, ErrQuorum.
func TestCheckOrder(t *testing.T) {
	c := councilOf(1, 1, 1, 1)
	w, good := certWorld(t, c)
	w.check("all", c, name, good, api.OK)
	for what, x := range noCerts() {
		w.check(what, c, "", x.x, x.want)
		for e, no := range noCouncils() {
			w.check(fmt.Sprint(what, ", no council ", e), no, "", x.x, e)
		}
	}
	for e, no := range noCouncils() {
		w.check(fmt.Sprint("no council ", e), no, name, good, e)
		w.check(fmt.Sprint("no council, no certificate ", e), no, "", api.Cert{}, e)
	}
	w.check("the zero certificate", c, name, api.Cert{}, api.ErrCert)
	w.check("the zero certificate, of no chain", c, "", api.Cert{Marks: []api.Mark{}}, api.ErrCert)
	w.check("no marks", c, name, marked(), api.ErrQuorum)
	w.check("no marks, of no chain", c, "", marked(), api.ErrQuorum)
	wrong := good
	wrong.Marks = slices.Clone(good.Marks)
	wrong.Marks[0].Seal[3]++
	wrong.Marks[3].Index = 4
	w.check("no member's place behind a wrong seal", c, name, wrong, api.ErrMember)
	w.check("no member's place, of no chain", c, "", wrong, api.ErrMember)
	for _, long := range []string{"", "seventeen letters"} {
		w.check("of no chain", c, long, good, api.ErrField)
		wrong.Marks[3].Index = 3
		w.check("of no chain, and a wrong seal", c, long, wrong, api.ErrField)
		few := api.Cert{Height: 7, Round: 3, Id: good.Id, Marks: good.Marks[:1]}
		w.check("of no chain, and too few", c, long, few, api.ErrField)
	}
	few := api.Cert{Height: 7, Round: 3, Id: good.Id, Marks: slices.Clone(good.Marks[:2])}
	w.check("too few", c, name, few, api.ErrQuorum)
	few.Marks[1].Seal[15]++
	w.check("too few, and a wrong seal", c, name, few, api.ErrSeal)
}

// TestCheckSeals: each mark must bear the seal of just its precommit, by just its member.
func TestCheckSeals(t *testing.T) {
	c := councilOf(slices.Repeat([]uint64{1}, 64)...)
	w, good := certWorld(t, c)
	w.check("64 marks", c, name, good, api.OK)
	for k := range good.Marks {
		x := good
		x.Marks = slices.Clone(good.Marks)
		x.Marks[k].Seal[k%16] ^= 1
		w.check("one seal is wrong", c, name, x, api.ErrSeal)
		x.Marks[k].Seal = good.Marks[(k+1)%64].Seal
		w.check("one seal is another's", c, name, x, api.ErrSeal)
		x.Marks[k].Seal = api.Seal{}
		w.check("one seal is zero", c, name, x, api.ErrSeal)
		x.Marks[k] = good.Marks[k]
		x.Marks[k].Time++
		w.check("another time", c, name, x, api.ErrSeal)
		x.Marks = slices.Delete(x.Marks, k, k+1)
		w.check("without it", c, name, x, api.OK)
	}
	for what, bend := range map[string]func(x *api.Cert){
		"height": func(x *api.Cert) { x.Height++ },
		"round":  func(x *api.Cert) { x.Round-- },
		"id":     func(x *api.Cert) { x.Id[31]++ },
	} {
		x := good
		bend(&x)
		w.check("another "+what, c, name, x, api.ErrSeal)
	}
	w.check("another chain", c, "d", good, api.ErrSeal)
	other := api.Council{Members: slices.Clone(c.Members)}
	other.Members[63].Addr++
	w.check("another member", other, name, good, api.ErrSeal)
	// The seals of a prevote, and those of another registry, show nothing.
	prevote := w.vote(api.Vote{Kind: api.Prevote, Height: 7, Round: 3, Id: good.Id, From: 11})
	x := good
	x.Marks = slices.Clone(good.Marks)
	x.Marks[0].Seal, x.Marks[0].Time = prevote.Seal, 0
	w.check("a prevote's seal", c, name, x, api.ErrSeal)
	if e := chain.CheckCert(c, seal.New(), name, good); e != api.ErrSeal {
		t.Errorf("C3: another registry: error %d", e)
	}
}

// TestCheckQuorum: three times the power must be above twice the total.
func TestCheckQuorum(t *testing.T) {
	third := uint64(api.MaxSupply / 3)
	for _, q := range []struct {
		powers []uint64
		places []int
		want   api.Errno
	}{
		{[]uint64{1}, []int{0}, api.OK},
		{[]uint64{1, 1, 1}, []int{0, 1}, api.ErrQuorum},
		{[]uint64{1, 1, 1}, []int{0, 1, 2}, api.OK},
		{[]uint64{3, 3, 3}, []int{0, 2}, api.ErrQuorum},
		{[]uint64{3, 4, 3}, []int{0, 1}, api.OK},
		{[]uint64{3, 4, 3}, []int{0, 2}, api.ErrQuorum},
		{[]uint64{10, 10, 10, 10}, []int{1, 2, 3}, api.OK},
		{[]uint64{10, 10, 10, 10}, []int{1, 3}, api.ErrQuorum},
		{[]uint64{third, third, third}, []int{0, 1}, api.ErrQuorum},
		{[]uint64{third, third + 1, third - 1}, []int{0, 1}, api.OK},
		{[]uint64{1, api.MaxSupply - 1}, []int{1}, api.OK},
		{[]uint64{1, api.MaxSupply - 1}, []int{0}, api.ErrQuorum},
	} {
		c := councilOf(q.powers...)
		w, _ := certWorld(t, c)
		x := w.certBy(c, 7, 3, api.Hash{1}, q.places, at(5))
		w.check(fmt.Sprint(q.places, " of ", q.powers), c, name, x, q.want)
	}
}

// hasSigned: does the registry's book have the message, and is this the seal that it was answered with?
func (w *world) hasSigned(v api.Vote, s api.Seal) bool {
	msg, _ := wire.VoteBytes(w.st.Chain, v)
	for _, m := range w.r.Signed(v.From) {
		if slices.Equal(m, msg) {
			again, _ := w.signer(v.From).Sign(msg)
			return again == s
		}
	}
	return false
}

// TestCheckByTheBook: P12.6, with certificates of which some marks were never signed, by what the book says.
func TestCheckByTheBook(t *testing.T) {
	r := rand.New(rand.NewSource(122))
	answers := map[api.Errno]int{}
	for range 400 {
		c := someCouncil(r, 7)
		w, good := certWorld(t, c)
		x := good
		x.Marks = nil
		for _, m := range good.Marks {
			if r.Intn(6) == 0 {
				continue
			}
			switch r.Intn(24) {
			case 0:
				m.Time++
			case 1:
				m.Seal[r.Intn(16)]++
			case 2:
				m.Time += 5
				m.Seal = w.certBy(c, 7, 3, good.Id, []int{m.Index}, at(m.Time)).Marks[0].Seal
			}
			x.Marks = append(x.Marks, m)
		}
		want := api.OK
		var power uint64
		for _, m := range x.Marks {
			member := c.Members[m.Index]
			power += member.Power
			if !w.hasSigned(api.Vote{Kind: api.Precommit, Height: 7, Round: 3, Id: x.Id, Time: m.Time, From: member.Addr}, m.Seal) {
				want = api.ErrSeal
			}
		}
		if want == api.OK && 3*power <= 2*council.Total(c) {
			want = api.ErrQuorum
		}
		answers[want]++
		w.check(fmt.Sprint(x.Marks, " by ", c), c, name, x, want)
	}
	for _, e := range []api.Errno{api.OK, api.ErrSeal, api.ErrQuorum} {
		if answers[e] < 30 {
			t.Errorf("the error %d was answered %d times", e, answers[e])
		}
	}
}
