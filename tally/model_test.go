package tally_test

import (
	"bytes"
	"cmp"
	"math/rand"
	"slices"
	"testing"

	"assent/api"
	"assent/tally"
)

var ids = []api.Hash{none, x, y, z}

// entry is a vote that was taken, and how many rounds had been entered by then.
type entry struct {
	v      api.Vote
	behind int
}

// scene is a tally, and by another hand all that was ever taken and entered, of which the promises' words say what is held: nothing is kept up to date here.
type scene struct {
	*world
	r       *rand.Rand
	council api.Council
	powers  map[api.Addr]uint64
	added   []entry
	entered []int // the rounds, 0 first
}

func newScene(t *testing.T, seed int64) *scene {
	r := rand.New(rand.NewSource(seed))
	s := &scene{r: r, powers: map[api.Addr]uint64{}, entered: []int{0}}
	addr := api.Addr(0)
	for range 1 + r.Intn(6) {
		addr += api.Addr(1 + r.Intn(3))
		m := api.Member{Addr: addr, Power: uint64(1 + r.Intn(4)), Priority: int64(r.Intn(3))}
		s.council.Members = append(s.council.Members, m)
		s.powers[addr] = m.Power
	}
	s.world = newWorld(t, height, s.council)
	return s
}

func (s *scene) present() int { return s.entered[len(s.entered)-1] }

func (s *scene) someId() api.Hash { return ids[s.r.Intn(len(ids))] }

func (s *scene) someVote() api.Vote {
	m := s.council.Members[s.r.Intn(len(s.council.Members))]
	round := s.present() + s.r.Intn(14) - 5
	if s.r.Intn(20) == 0 {
		round = s.present() + s.r.Intn(60)
	}
	round = min(max(round, 0), api.MaxRound)
	return marked(vote(1+s.r.Intn(2), round, s.someId(), m.Addr), byte(s.r.Intn(200)))
}

// addSome adds a vote, and wants of it what the words say.
func (s *scene) addSome() {
	s.t.Helper()
	one := s.someVote()
	s.add("by another hand", one, s.becomes(one))
	s.added = append(s.added, entry{one, len(s.entered)})
}

func (s *scene) enter(round int) {
	s.t.Helper()
	come := 0
	before := s.present()
	s.entered = append(s.entered, round)
	for _, one := range s.held() {
		if one.Round > before+3 && one.Round <= round+3 {
			come++
		}
	}
	s.world.enter(round, come)
}

// becomes is what T2 says of a vote that comes now.
func (s *scene) becomes(one api.Vote) (a api.Added) {
	if one.Round < s.present()-3 {
		return api.Added{Old: true}
	}
	held, found := s.atPlace(one.Kind, one.Round, one.From)
	if one.Round > s.present()+3 {
		a.Far = true
		held, found = s.aside(one.Kind, one.From, s.present()+3, len(s.entered))
		if found && held.Round > one.Round {
			return a
		}
		found = found && held.Round == one.Round
	}
	a.New = !found
	if found && held.Id != one.Id {
		a.Two, a.Both = true, api.Evidence{A: held, B: one}
		if bytes.Compare(held.Id[:], one.Id[:]) > 0 {
			a.Both = api.Evidence{A: one, B: held}
		}
	}
	return a
}

// aside is what P10.6 says: of all votes of rounds above top that were added before so many rounds had been entered, the first one of the greatest round.
func (s *scene) aside(kind int, from api.Addr, top, until int) (best api.Vote, found bool) {
	for _, one := range s.added {
		if one.v.Kind != kind || one.v.From != from || one.v.Round <= top || one.behind > until {
			continue
		}
		if !found || one.v.Round > best.Round {
			best, found = one.v, true
		}
	}
	return best, found
}

// atPlace is what P10.1 says of a place in the window: the one that was held aside when its round came in, or the first one since.
func (s *scene) atPlace(kind, round int, from api.Addr) (api.Vote, bool) {
	if round < s.present()-3 || round > s.present()+3 {
		return api.Vote{}, false
	}
	since := slices.IndexFunc(s.entered, func(r int) bool { return round <= r+3 })
	if since > 0 {
		before := s.entered[since-1] + 3
		if one, found := s.aside(kind, from, before, since); found && one.Round == round {
			return one, true
		}
	}
	for _, one := range s.added {
		if one.behind > since && one.v.Kind == kind && one.v.Round == round && one.v.From == from {
			return one.v, true
		}
	}
	return api.Vote{}, false
}

func (s *scene) held() (list []api.Vote) {
	for _, m := range s.council.Members {
		for _, kind := range bothKinds {
			for round := max(0, s.present()-3); round <= s.present()+3; round++ {
				if one, found := s.atPlace(kind, round, m.Addr); found {
					list = append(list, one)
				}
			}
			if one, found := s.aside(kind, m.Addr, s.present()+3, len(s.entered)); found {
				list = append(list, one)
			}
		}
	}
	slices.SortFunc(list, byHeld)
	return list
}

func byHeld(p, q api.Vote) int {
	return cmp.Or(cmp.Compare(p.Round, q.Round), cmp.Compare(p.Kind, q.Kind), cmp.Compare(p.From, q.From))
}

func (s *scene) total() (sum uint64) {
	for _, p := range s.powers {
		sum += p
	}
	return sum
}

// skip goes from the greatest round down.
func (s *scene) skip(held []api.Vote) (int, bool) {
	top := 0
	for _, one := range held {
		top = max(top, one.Round)
	}
	for r := top; r > s.present(); r-- {
		heard := map[api.Addr]uint64{}
		for _, one := range held {
			if one.Round >= r {
				heard[one.From] = s.powers[one.From]
			}
		}
		if more(heard, s.total()) {
			return r, true
		}
	}
	return 0, false
}

// wantAll: every call tells what the words say.
func (s *scene) wantAll() {
	s.t.Helper()
	held := s.held()
	s.holds("by another hand", held...)
	round, ok := s.skip(held)
	s.skips("by another hand", round, ok)
	if n := len(s.council.Members); len(held) > 16*n {
		s.t.Errorf("P10.5: %d votes of %d members are held", len(held), n)
	}
	for round := s.present() - 5; round <= s.present()+6; round++ {
		for _, kind := range bothKinds {
			s.wantRound(held, kind, round)
		}
	}
}

func (s *scene) wantRound(held []api.Vote, kind, round int) {
	s.t.Helper()
	var here []api.Vote
	powers := map[api.Hash]uint64{}
	var all uint64
	for _, one := range held {
		if one.Kind == kind && one.Round == round && round <= s.present()+3 {
			here = append(here, one)
			powers[one.Id] += s.powers[one.From]
			all += s.powers[one.From]
		}
	}
	s.votes("by another hand", kind, round, here...)
	s.any("by another hand", kind, round, all)
	if all > s.total() {
		s.t.Errorf("P10.2: %d have voted, of %d", all, s.total())
	}
	quorum, found := none, false
	var together uint64
	for _, id := range ids {
		s.power("by another hand", kind, round, id, powers[id])
		together += s.l.Power(kind, round, id)
		if 3*powers[id] > 2*s.total() {
			if found {
				s.t.Errorf("P10.2: two ids have a quorum")
			}
			quorum, found = id, true
		}
		if kind == precommit {
			s.wantCert(here, round, id, 3*powers[id] > 2*s.total())
		}
	}
	if together != s.l.Any(kind, round) {
		s.t.Errorf("P10.2: the powers are together %d, Any is %d", together, s.l.Any(kind, round))
	}
	s.quorum("by another hand", kind, round, quorum, found)
}

func (s *scene) wantCert(here []api.Vote, round int, id api.Hash, enough bool) {
	s.t.Helper()
	switch {
	case id == none:
		s.noCert("P10.8, by another hand", round, id, api.ErrArg)
	case !enough:
		s.noCert("P10.8, by another hand", round, id, api.ErrQuorum)
	default:
		var marks []api.Mark
		for index, m := range s.council.Members {
			for _, one := range here {
				if one.From == m.Addr && one.Id == id {
					marks = append(marks, api.Mark{Index: index, Time: one.Time, Seal: one.Seal})
				}
			}
		}
		s.cert("P10.8, by another hand", round, id, marks...)
	}
}

// TestByAnotherHand: P10.1, P10.2, P10.4, P10.5, P10.6, P10.8 and what the calls tell, behind whatever is added and entered.
func TestByAnotherHand(t *testing.T) {
	for seed := range int64(60) {
		s := newScene(t, seed)
		if seed%5 == 4 {
			s.enter(api.MaxRound - s.r.Intn(12))
		}
		for k := range 150 {
			s.addSome()
			if s.r.Intn(12) == 0 {
				s.enter(min(s.present()+s.r.Intn(6), api.MaxRound))
			}
			if s.r.Intn(60) == 0 {
				s.enter(min(s.present()+s.r.Intn(30), api.MaxRound))
			}
			if k%3 == 0 {
				s.wantAll()
			}
		}
		s.wantAll()
		if t.Failed() {
			t.Fatalf("by the seed %d", seed)
		}
	}
}

// TestContradictions: P10.4: what is told as Both was handed in, just so, and Two is told just if one that contradicts is held.
func TestContradictions(t *testing.T) {
	for seed := range int64(20) {
		s := newScene(t, 100+seed)
		handed := map[api.Vote]int{}
		twos := 0
		for range 300 {
			one := s.someVote()
			handed[one]++
			held := s.l.Held()
			against := slices.IndexFunc(held, func(h api.Vote) bool {
				return h.Kind == one.Kind && h.Round == one.Round && h.From == one.From && h.Id != one.Id
			})
			got, e := s.l.Add(one)
			if e != api.OK || got.Two != (against >= 0) {
				t.Fatalf("P10.4: %v, error %d, beside %v", got, e, showAll(held))
			}
			if !got.Two {
				if got.Both != (api.Evidence{}) {
					t.Fatalf("P10.4: Both is %v without Two", got.Both)
				}
				continue
			}
			twos++
			a, b := got.Both.A, got.Both.B
			if handed[a] == 0 || handed[b] == 0 || a.Kind != b.Kind || a.Round != b.Round || a.From != b.From || bytes.Compare(a.Id[:], b.Id[:]) >= 0 {
				t.Fatalf("P10.4: %v and %v", show(a), show(b))
			}
		}
		if twos == 0 {
			t.Errorf("P10.4: nobody contradicts himself by the seed %d", seed)
		}
	}
}

// TestAgainTheSame: G4: the same calls are answered the same, and other tallies have nothing to do with it.
func TestAgainTheSame(t *testing.T) {
	run := func(seed int64, beside *tally.Tally) (all []api.Vote, added []api.Added, skips []int) {
		s := newScene(t, seed)
		for range 200 {
			one := s.someVote()
			a, _ := s.l.Add(one)
			if beside != nil {
				beside.Add(vote(one.Kind, one.Round, z, 1))
				beside.Enter(one.Round)
			}
			r, ok := s.l.Skip()
			if ok && s.r.Intn(5) == 0 {
				come, _ := s.l.Enter(r)
				added = append(added, come...)
				s.entered = append(s.entered, r)
			}
			added, all, skips = append(added, a), append(all, s.l.Held()...), append(skips, r)
		}
		return all, added, skips
	}
	for seed := range int64(10) {
		held, added, skips := run(seed, nil)
		again, addedAgain, skipsAgain := run(seed, four(t).l)
		if !slices.Equal(held, again) || !slices.Equal(added, addedAgain) || !slices.Equal(skips, skipsAgain) {
			t.Fatalf("P10.9, G4: the calls of the seed %d are answered otherwise", seed)
		}
	}
}
