package node_test

import (
	"testing"

	"assent/api"
	"assent/wire"
)

// wantHonest: no two of these messages are votes of one kind, height and round, or proposals of one height and round: the book has each message once, so two of them would be unlike.
func wantHonest(t *testing.T, chain string, signed [][]byte) {
	t.Helper()
	type place struct {
		kind   int
		height uint64
		round  int
	}
	seen := map[place]int{}
	for _, msg := range signed {
		var at place
		if name, v, e := wire.ReadVoteBytes(msg); e == api.OK && name == chain {
			at = place{v.Kind, v.Height, v.Round}
		} else if name, p, e := wire.ReadProposalBytes(msg); e == api.OK && name == chain {
			at = place{0, p.Height, p.Round}
		} else {
			continue // a transaction
		}
		if seen[at]++; seen[at] > 1 {
			t.Fatalf("P15.1: two messages of %+v are signed", at)
		}
	}
}
