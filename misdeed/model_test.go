package misdeed_test

import (
	"math/big"
	"math/rand"
	"slices"
	"testing"

	"assent/api"
	"assent/misdeed"
	"assent/seal"
	"assent/wire"
)

// model is a pool by another hand: what waits, in the order of its coming.
type model struct{ list []api.Evidence }

func modelBelow(x, y api.Hash) bool {
	return new(big.Int).SetBytes(x[:]).Cmp(new(big.Int).SetBytes(y[:])) < 0
}

func modelPair(a, b api.Vote) api.Errno {
	if e := wire.PlainVote(a); e != api.OK {
		return e
	}
	if e := wire.PlainVote(b); e != api.OK {
		return e
	}
	like := b
	like.Id, like.Time, like.Seal = a.Id, a.Time, a.Seal
	if like != a || a.Id == b.Id {
		return api.ErrPair
	}
	return api.OK
}

// modelCounted reckons without wrapping.
func modelCounted(st api.State, height uint64) bool {
	number := func(n uint64) *big.Int { return new(big.Int).SetUint64(n) }
	first := new(big.Int).Sub(new(big.Int).Add(number(st.Height), number(1)), number(st.Params.Age))
	if first.Cmp(number(1)) < 0 {
		first = number(1)
	}
	return number(height).Cmp(first) >= 0 && number(height).Cmp(number(st.Height)) <= 0
}

// modelMembers are those of the height's first entry.
func modelMembers(st api.State, height uint64) ([]api.Member, bool) {
	for _, p := range st.Past {
		if p.Height == height {
			return p.Council.Members, true
		}
	}
	return nil, false
}

func modelPunished(st api.State, e api.Evidence) bool {
	for _, o := range st.Punished {
		if o.Height == e.A.Height && o.Addr == e.A.From {
			return true
		}
	}
	return false
}

func modelVerify(st api.State, r *seal.Registry, e api.Evidence) api.Errno {
	if no := modelPair(e.A, e.B); no != api.OK {
		return no
	}
	if !modelBelow(e.A.Id, e.B.Id) {
		return api.ErrPair
	}
	members, found := modelMembers(st, e.A.Height)
	if !found || !modelCounted(st, e.A.Height) {
		return api.ErrAge
	}
	if !slices.ContainsFunc(members, func(m api.Member) bool { return m.Addr == e.A.From }) {
		return api.ErrMember
	}
	if modelPunished(st, e) {
		return api.ErrDone
	}
	for _, v := range []api.Vote{e.A, e.B} {
		msg, no := wire.VoteBytes(st.Chain, v)
		if no != api.OK || !r.Check(v.From, msg, v.Seal) {
			return api.ErrSeal
		}
	}
	return api.OK
}

func samePair(x, y api.Evidence) bool { return x.A.Height == y.A.Height && x.A.From == y.A.From }

func (m *model) add(st api.State, r *seal.Registry, e api.Evidence) api.Errno {
	if no := modelVerify(st, r, e); no != api.OK {
		return no
	}
	if slices.ContainsFunc(m.list, func(x api.Evidence) bool { return samePair(x, e) }) {
		return api.ErrKnown
	}
	m.list = append(m.list, e)
	return api.OK
}

// pick looks for the least of those that are left, again and again.
func (m *model) pick(st api.State, r *seal.Registry) (picked []api.Evidence) {
	for len(picked) < 16 {
		best := -1
		for k, e := range m.list {
			if slices.Contains(picked, e) || modelVerify(st, r, e) != api.OK {
				continue
			}
			if best < 0 || e.A.Height < m.list[best].A.Height || e.A.Height == m.list[best].A.Height && e.A.From < m.list[best].A.From {
				best = k
			}
		}
		if best < 0 {
			break
		}
		picked = append(picked, m.list[best])
	}
	return picked
}

func (m *model) settle(st api.State, done []api.Evidence) {
	var stay []api.Evidence
	for _, e := range m.list {
		_, found := modelMembers(st, e.A.Height)
		held := slices.ContainsFunc(done, func(x api.Evidence) bool { return samePair(x, e) })
		if found && modelCounted(st, e.A.Height) && !modelPunished(st, e) && !held {
			stay = append(stay, e)
		}
	}
	m.list = stay
}

// someEvidence is about the heights of the examples, and mostly good.
func (w *world) someEvidence(r *rand.Rand) api.Evidence {
	height, member := uint64(8+r.Intn(15)), api.Addr(1+r.Intn(5))
	e := w.proof(height, member, 1+r.Intn(2), r.Intn(3))
	switch r.Intn(12) {
	case 0:
		e.A, e.B = e.B, e.A
	case 1:
		e.B = w.v(e.B.Kind, e.B.Height, e.B.Round+r.Intn(2), byte(r.Intn(3)), api.Addr(1+r.Intn(5)))
	case 2:
		e.A.Seal[r.Intn(16)]++
	case 3:
		e.B.Seal[r.Intn(16)]++
	case 4:
		e.A.Kind = r.Intn(4)
	case 5:
		e.A = w.v(e.A.Kind, height, e.A.Round, 0, member)
	}
	return e
}

// someState is of heights about 20, with gaps, entries twice, and some that are punished.
func someState(r *rand.Rand) api.State {
	st := stateOf(uint64(16+r.Intn(6)), uint64(r.Intn(13)), uint64(6+r.Intn(6)), seats(1, 2, 3, 4))
	if r.Intn(3) == 0 {
		k := r.Intn(len(st.Past))
		st.Past[k].Height = uint64(10 + r.Intn(8))
		st.Past[k].Council = seats(5, 2)
	}
	for range r.Intn(6) {
		st.Punished = append(st.Punished, api.Offence{Height: uint64(8 + r.Intn(13)), Addr: api.Addr(1 + r.Intn(5))})
	}
	if r.Intn(8) == 0 {
		st.Chain = "another"
	}
	return st
}

func (w *world) someDone(r *rand.Rand) (done []api.Evidence) {
	for range r.Intn(3) {
		done = append(done, w.someEvidence(r))
	}
	return done
}

// wantModel: Len, Pick and what waits are as the other hand has them.
func (w *world) wantModel(st api.State, m *model) {
	w.t.Helper()
	if w.p.Len() != len(m.list) {
		w.t.Fatalf("P11.7: %d wait, want %d", w.p.Len(), len(m.list))
	}
	if got, want := w.p.Pick(st, w.r), m.pick(st, w.r); !slices.Equal(got, want) {
		w.t.Fatalf("P11.5: %s, want %s", told(got), told(want))
	}
	for _, e := range m.list {
		if got := w.waits(e.A.Height, e.A.From); !slices.Equal(got, []api.Evidence{e}) {
			w.t.Fatalf("P11.3: %s waits, want %v", told(got), e)
		}
	}
}

func TestByAnotherHand(t *testing.T) {
	r := rand.New(rand.NewSource(114))
	answers := map[api.Errno]int{}
	for range 40 {
		w := examples(t)
		m := &model{}
		st := someState(r)
		for k := range 120 {
			e := w.someEvidence(r)
			want := modelVerify(st, w.r, e)
			if got := misdeed.Verify(st, w.r, e); got != want {
				t.Fatalf("P11.2: Verify of %v behind %v: error %d, want %d", e, st, got, want)
			}
			want = m.add(st, w.r, e)
			answers[want]++
			if got := w.p.Add(st, w.r, e); got != want {
				t.Fatalf("P11.4: Add of %v behind %v: error %d, want %d", e, st, got, want)
			}
			if k%5 == 4 {
				st = someState(r)
			}
			w.wantModel(st, m)
			if k%20 == 19 {
				done := w.someDone(r)
				w.p.Settle(st, done)
				m.settle(st, done)
				w.wantModel(st, m)
			}
		}
	}
	for _, e := range []api.Errno{api.OK, api.ErrKind, api.ErrPair, api.ErrAge, api.ErrMember, api.ErrDone, api.ErrSeal, api.ErrKnown} {
		if answers[e] < 20 {
			t.Errorf("the error %d was answered %d times", e, answers[e])
		}
	}
}
