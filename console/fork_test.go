package console_test

import (
	"fmt"
	"slices"
	"strings"
	"testing"

	"assent/api"
	"assent/council"
)

// newFork is a scene of two honest nodes, 11 and 12, and two liars, 13 and 14, with a bond of five each, and what the liars bond in the first block. It has come to the third height, and each of the two honest nodes has another certificate of the second.
func newFork(t *testing.T, more int) *scene {
	t.Helper()
	s := newScene(t, "account 11 100 5\naccount 12 100 5\naccount 13 100 5\naccount 14 100 5\nparam resend 1000\nstart 2 11 12 13 14\n")
	if more > 0 {
		s.must("bond 0 13 %d 0", more)
		s.must("bond 0 14 %d 0", more)
		s.drop(func(message) bool { return true })
	}
	for h := 1; h <= 2; h++ {
		s.must("tick 0 2")
		s.must("tick 1 2")
		id, ok := s.proposed(h - 1)
		if !ok {
			t.Fatalf("nothing is proposed at %d", h)
		}
		s.take(func(message) bool { return true })
		for liar := 2; liar <= 3; liar++ {
			s.must("vote %d all prevote %d 0 %x 0", liar, h, id)
		}
		s.take(func(message) bool { return true })
		s.must("vote 2 0 precommit %d 0 %x %d", h, id, 10*h)
		s.must("vote 3 1 precommit %d 0 %x %d", h, id, 10*h+1)
		s.take(func(message) bool { return true })
		if s.state(0).Height != uint64(h) || s.state(1).Height != uint64(h) {
			t.Fatalf("%d is not decided", h)
		}
	}
	s.must("tick 0 2")
	s.must("tick 1 2")
	s.drop(func(message) bool { return true })
	return s
}

// back has both liars vote a kind for a block in a round, to one node.
func (s *scene) back(node int, kind string, round int, id api.Hash, time int) {
	s.t.Helper()
	for liar := 2; liar <= 3; liar++ {
		s.must("vote %d %d %s 3 %d %x %d", liar, node, kind, round, id, time)
	}
	s.take(func(m message) bool { return m.from >= 2 })
}

// serve has the liar whose turn it is in a round propose to a node alone, and both vote for it there, until that node has decided.
func (s *scene) serve(node, round int, prevotes bool) {
	s.t.Helper()
	who, _ := council.Proposer(s.state(node).Council, round)
	liar := slices.Index(s.m.addrs, who)
	s.must("propose %d %d %d %d", liar, node, node, round)
	id := s.under(s.m.c.Pending() - 1).Proposal.Id
	s.take(func(m message) bool { return m.from >= 2 })
	if prevotes {
		s.back(node, "prevote", round, id, 0)
	}
	s.back(node, "precommit", round, id, 40)
	if got := s.must("block %d 3", node); !strings.HasPrefix(got, fmt.Sprintf("block 3 %x round %d ", id, round)) {
		s.t.Fatalf("another block is decided: %q", got)
	}
}

// TestBlame is W6: where more than a third lies two nodes may hold unlike blocks; who has made them so is named, and nobody else.
func TestBlame(t *testing.T) {
	s := newFork(t, 0)
	s.must("node 0")
	if got := s.say("blame"); got != "error 133\n" {
		t.Errorf("blame: %q", got)
	}
	s.serve(0, 0, true)
	if got := s.say("blame"); got != "error 133\n" {
		t.Errorf("blame: only one has decided: %q", got)
	}
	s.serve(1, 0, true) // the same one proposes another block in the same round, for that node has another certificate
	if one, two := s.must("block 0 3"), s.must("block 1 3"); one == two {
		t.Errorf("no fork: %q", one)
	}
	if got := s.say("blame"); got != "guilt 13 twice\nguilt 14 twice\n" {
		t.Errorf("blame: %q", got)
	}
	s.end("W6, twice")

	s = newFork(t, 0)
	s.serve(0, 0, true)
	s.serve(1, 1, true) // the votes of round 1 set the node on
	if one, two := s.must("block 0 3"), s.must("block 1 3"); !strings.Contains(one, " round 0 ") || !strings.Contains(two, " round 1 ") {
		t.Errorf("no fork: %q, %q", one, two)
	}
	if got := s.say("blame"); got != "guilt 13 forgets\nguilt 14 forgets\n" {
		t.Errorf("blame: %q", got)
	}
	s.must("rounds 30")
	s.say("blame")
	s.end("W6, forgets")
}

// TestBlameNobody: where more than two thirds lie the logs need not show who: a line a guilt is none then.
func TestBlameNobody(t *testing.T) {
	s := newFork(t, 90)
	if got := s.must("council 1"); got != "member 11 power 5\nmember 12 power 5\nmember 13 power 95\nmember 14 power 95\n" {
		t.Fatalf("council: %q", got)
	}
	s.serve(0, 0, false)
	s.serve(1, 1, false)
	if one, two := s.must("block 0 3"), s.must("block 1 3"); one == two {
		t.Errorf("no fork: %q", one)
	}
	if got := s.say("blame"); got != "" {
		t.Errorf("blame: %q", got)
	}
	s.must("pending")
	s.end("blame")
}
