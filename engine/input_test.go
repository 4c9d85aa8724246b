package engine_test

import (
	"math"
	"testing"

	"assent/api"
)

// ready is for 1, who has been asked for a block in round 2, so that an input of every kind may be.
func ready(t *testing.T) *world {
	t.Helper()
	w := begun(t, 3)
	w.take("E4", over(api.StepPrecommit, 0), doWait(api.StepPropose, 1, 6))
	w.take("E4", over(api.StepPrecommit, 1), doWait(api.StepPropose, 2, 9), doBuild(2))
	return w
}

// mayBe has an input of each kind that ready takes.
func mayBe() map[string]api.Input {
	return map[string]api.Input{
		"InProposal":      proposed(2, -1, x),
		"InProposal, old": proposed(2, 1, x),
		"InVote":          prevoted(2, idOf(x), 1),
		"InPolka":         shown(1, x, 1, 2, 3),
		"InTimeout":       over(api.StepPropose, 2),
		"InBuilt":         built(2, x),
	}
}

func wantTaken(t *testing.T, what string, in api.Input) {
	t.Helper()
	if _, e := ready(t).e.Take(in); e != api.OK {
		t.Errorf("E2: %s: error %d", what, e)
	}
}

func wantInput(t *testing.T, what string, in api.Input) {
	t.Helper()
	ready(t).refused("E2: "+what, in, api.ErrInput)
}

// TestInputs: each kind is taken, with the least and the greatest Now; a greater one is refused.
func TestInputs(t *testing.T) {
	for what, in := range mayBe() {
		for _, now := range []uint64{0, 1, api.MaxTime} {
			wantTaken(t, what, later(now, in))
		}
		for _, now := range []uint64{api.MaxTime + 1, math.MaxUint64} {
			wantInput(t, what+", Now", later(now, in))
		}
	}
	newWorld(t, 1).refused("E2: InStart, Now", later(api.MaxTime+1, start()), api.ErrInput)
	w := newWorld(t, 2)
	w.take("E2", later(api.MaxTime, start()), doWait(api.StepPropose, 0, 3))
	for _, kind := range []int{math.MinInt, -1, 0, api.InBuilt + 1, math.MaxInt} {
		wantInput(t, "a kind that is none", api.Input{Kind: kind})
		newWorld(t, 1).refused("E2: a kind that is none", api.Input{Kind: kind}, api.ErrInput)
	}
}

// TestUnusedFields: whatever of a field that the kind does not use is not zero, it is refused.
func TestUnusedFields(t *testing.T) {
	type field struct {
		name string
		set  func(*api.Input)
	}
	fields := []field{
		{"Proposal", func(in *api.Input) { in.Proposal.Height = 1 }},
		{"Proposal", func(in *api.Input) { in.Proposal.Round = 2 }},
		{"Proposal", func(in *api.Input) { in.Proposal.ValidRound = -1 }},
		{"Proposal", func(in *api.Input) { in.Proposal.Id[31] = 1 }},
		{"Proposal", func(in *api.Input) { in.Proposal.From = 3 }},
		{"Proposal", func(in *api.Input) { in.Proposal.Seal[15] = 1 }},
		{"Block", func(in *api.Input) { in.Block.Header.Chain = "c" }},
		{"Block", func(in *api.Input) { in.Block.Header.Height = 1 }},
		{"Block", func(in *api.Input) { in.Block.Header.Time = 1 }},
		{"Block", func(in *api.Input) { in.Block.Header.Last[0] = 1 }},
		{"Block", func(in *api.Input) { in.Block.Header.State[31] = 1 }},
		{"Block", func(in *api.Input) { in.Block.Header.Proposer = 1 }},
		{"Block", func(in *api.Input) { in.Block.Txs = make([]api.Tx, 1) }},
		{"Block", func(in *api.Input) { in.Block.Evidence = make([]api.Evidence, 1) }},
		{"Block", func(in *api.Input) { in.Block.Last.Height = 1 }},
		{"Block", func(in *api.Input) { in.Block.Last.Round = -1 }},
		{"Block", func(in *api.Input) { in.Block.Last.Id[31] = 1 }},
		{"Block", func(in *api.Input) { in.Block.Last.Marks = make([]api.Mark, 1) }},
		{"Block", func(in *api.Input) { in.Block.Txs, in.Block.Evidence = make([]api.Tx, 1), make([]api.Evidence, 1) }},
		{"Block", func(in *api.Input) { in.Block.Txs, in.Block.Last.Marks = make([]api.Tx, 1), make([]api.Mark, 1) }},
		{"Block", func(in *api.Input) {
			in.Block.Evidence, in.Block.Last.Marks = make([]api.Evidence, 1), make([]api.Mark, 1)
		}},
		{"Votes", func(in *api.Input) { in.Votes = make([]api.Vote, 1) }},
		{"Good", func(in *api.Input) { in.Good = true }},
		{"Step", func(in *api.Input) { in.Step = api.StepPropose }},
		{"Step", func(in *api.Input) { in.Step = -1 }},
		{"Round", func(in *api.Input) { in.Round = 2 }},
		{"Round", func(in *api.Input) { in.Round = -1 }},
	}
	uses := map[int]map[string]bool{
		api.InStart:    {},
		api.InProposal: {"Proposal": true, "Block": true, "Votes": true, "Good": true},
		api.InVote:     {"Votes": true},
		api.InPolka:    {"Block": true, "Votes": true, "Good": true},
		api.InTimeout:  {"Step": true, "Round": true},
		api.InBuilt:    {"Round": true, "Block": true},
	}
	for what, in := range mayBe() {
		for _, f := range fields {
			if !uses[in.Kind][f.name] {
				spoilt := in
				f.set(&spoilt)
				wantInput(t, what+" with "+f.name, spoilt)
			}
		}
	}
	for _, f := range fields {
		in := start()
		f.set(&in)
		newWorld(t, 3).refused("E2: InStart with "+f.name, in, api.ErrInput)
		wantInput(t, "InStart at a wrong time, with "+f.name, in)
	}
}

// TestEmptyFields: lists that are empty and not nil are as good as nil ones.
func TestEmptyFields(t *testing.T) {
	empty := api.Block{Txs: []api.Tx{}, Evidence: []api.Evidence{}, Last: api.Cert{Marks: []api.Mark{}}}
	for what, in := range mayBe() {
		if in.Block.Header == (api.Header{}) {
			in.Block = empty
		}
		if len(in.Votes) == 0 {
			in.Votes = []api.Vote{}
		}
		wantTaken(t, what+" with empty lists", in)
	}
	w := newWorld(t, 2)
	w.take("E2", api.Input{Kind: api.InStart, Block: empty, Votes: []api.Vote{}}, doWait(api.StepPropose, 0, 3))
}

// changed is the input with something else in it.
func changed(in api.Input, change func(*api.Input)) api.Input {
	in.Votes = append([]api.Vote(nil), in.Votes...)
	change(&in)
	return in
}

// otherBlock has another height; the proposal and the votes name it.
func otherBlock(in api.Input, b api.Block) api.Input {
	return changed(in, func(in *api.Input) {
		in.Block = b
		in.Proposal.Id = idOf(b)
		for k := range in.Votes {
			in.Votes[k].Id = idOf(b)
		}
	})
}

// TestBlocks: a block without an id, or of another height, is refused wherever one comes.
func TestBlocks(t *testing.T) {
	for _, what := range []string{"InProposal", "InProposal, old", "InPolka", "InBuilt"} {
		in := mayBe()[what]
		for why, change := range map[string]func(*api.Header){
			"no chain":         func(h *api.Header) { h.Chain = "" },
			"a long chain":     func(h *api.Header) { h.Chain = "seventeen letters" },
			"no proposer":      func(h *api.Header) { h.Proposer = 0 },
			"a late time":      func(h *api.Header) { h.Time = api.MaxTime + 1 },
			"height 0":         func(h *api.Header) { h.Height = 0 },
			"no such height":   func(h *api.Header) { h.Height = api.MaxHeight + 1 },
			"nothing whatever": func(h *api.Header) { *h = api.Header{} },
		} {
			wantInput(t, what+": "+why, changed(in, func(in *api.Input) { change(&in.Block.Header) }))
		}
		for _, height := range []uint64{2, api.MaxHeight} {
			other := blockAt(height, 5)
			in := otherBlock(in, other)
			if in.Kind != api.InProposal {
				in.Proposal = api.Proposal{}
			}
			wantInput(t, what+": a block of another height", in)
		}
		// What stands below the header is not looked at.
		wantTaken(t, what+": whatever below", changed(in, func(in *api.Input) {
			in.Block.Txs = make([]api.Tx, api.MaxTxs+1)
			in.Block.Evidence = make([]api.Evidence, api.MaxEvidence+1)
			in.Block.Last = api.Cert{Round: -1, Marks: make([]api.Mark, api.MaxSeats+1)}
		}))
	}
	// A block whose header has no id has none by which a vote could be for it.
	w := ready(t)
	w.refused("E2: a polka for none", api.Input{Kind: api.InPolka, Votes: []api.Vote{vote(api.Prevote, 1, none, 1), vote(api.Prevote, 1, none, 2), vote(api.Prevote, 1, none, 3)}}, api.ErrInput)
}

// TestProposals: the edges of what a proposal may be.
func TestProposals(t *testing.T) {
	in := proposed(2, -1, x)
	for why, change := range map[string]func(*api.Proposal){
		"height 0":           func(p *api.Proposal) { p.Height = 0 },
		"another height":     func(p *api.Proposal) { p.Height = 2 },
		"round -1":           func(p *api.Proposal) { p.Round = -1 },
		"least round":        func(p *api.Proposal) { p.Round = math.MinInt },
		"above MaxRound":     func(p *api.Proposal) { p.Round, p.From = api.MaxRound+1, turn(api.MaxRound+1) },
		"greatest round":     func(p *api.Proposal) { p.Round = math.MaxInt },
		"above it, from 0":   func(p *api.Proposal) { p.Round, p.From = api.MaxRound+1, 0 },
		"another member":     func(p *api.Proposal) { p.From = 2 },
		"nobody":             func(p *api.Proposal) { p.From = 0 },
		"no member":          func(p *api.Proposal) { p.From = 9 },
		"another's turn":     func(p *api.Proposal) { p.Round = 3 },
		"valid round -2":     func(p *api.Proposal) { p.ValidRound = -2 },
		"least valid round":  func(p *api.Proposal) { p.ValidRound = math.MinInt },
		"without votes":      func(p *api.Proposal) { p.ValidRound = 0 },
		"its own round":      func(p *api.Proposal) { p.ValidRound = 2 },
		"a later round":      func(p *api.Proposal) { p.ValidRound = 3 },
		"another block's id": func(p *api.Proposal) { p.Id = idOf(y) },
		"no id":              func(p *api.Proposal) { p.Id = none },
		"one bit of the id":  func(p *api.Proposal) { p.Id[31] ^= 1 },
	} {
		wantInput(t, "InProposal: "+why, changed(in, func(in *api.Input) { change(&in.Proposal) }))
	}
	wantInput(t, "InProposal: votes of no valid round", changed(in, func(in *api.Input) { in.Votes = polka(1, x, 1, 2, 3) }))
	wantInput(t, "InProposal: one such", changed(in, func(in *api.Input) { in.Votes = polka(-1, x, 1) }))
	wantInput(t, "InProposal: its own round, with votes", proposed(2, 2, x))
	wantInput(t, "InProposal: a later round, with votes", proposed(2, 3, x))
	wantTaken(t, "a seal is not looked at", changed(in, func(in *api.Input) { in.Proposal.Seal[0] = 1 }))
	for _, round := range []int{0, 1, 3, 4, 5, 6, 100, api.MaxRound} {
		wantTaken(t, "a proposal of any round", proposed(round, -1, x))
		wantTaken(t, "not a good one", bad(proposed(round, -1, x)))
		if round > 0 {
			wantTaken(t, "a proposal of any valid round", proposed(round, round-1, x))
			wantTaken(t, "a proposal of any valid round", proposed(round, 0, x))
		}
	}
}

// TestPolkas: what a list of votes must be to be a polka, in a proposal and by itself.
func TestPolkas(t *testing.T) {
	for what, in := range map[string]api.Input{"InProposal": proposed(2, 1, x), "InPolka": shown(1, x, 1, 2, 3)} {
		for why, change := range map[string]func([]api.Vote) []api.Vote{
			"none":            func(l []api.Vote) []api.Vote { return nil },
			"too few":         func(l []api.Vote) []api.Vote { return l[:2] },
			"a precommit":     func(l []api.Vote) []api.Vote { l[1].Kind = api.Precommit; return l },
			"no kind":         func(l []api.Vote) []api.Vote { l[0].Kind = 0; return l },
			"another height":  func(l []api.Vote) []api.Vote { l[2].Height = 2; return l },
			"another round":   func(l []api.Vote) []api.Vote { l[2].Round = 0; return l },
			"the first one's": func(l []api.Vote) []api.Vote { l[0].Round = 0; return l },
			"for none":        func(l []api.Vote) []api.Vote { l[1].Id = none; return l },
			"another block":   func(l []api.Vote) []api.Vote { l[0].Id = idOf(y); return l },
			"no member":       func(l []api.Vote) []api.Vote { l[2].From = 9; return l },
			"no member more":  func(l []api.Vote) []api.Vote { return append(l, vote(api.Prevote, 1, idOf(x), 5)) },
			"nobody":          func(l []api.Vote) []api.Vote { l[0].From = 0; return l },
			"twice":           func(l []api.Vote) []api.Vote { l[1].From = 1; return l },
			"one twice more":  func(l []api.Vote) []api.Vote { return append(l, l[2]) },
			"not rising":      func(l []api.Vote) []api.Vote { l[0], l[1] = l[1], l[0]; return l },
			"not at the end":  func(l []api.Vote) []api.Vote { l[1], l[2] = l[2], l[1]; return l },
		} {
			wantInput(t, what+": "+why, changed(in, func(in *api.Input) { in.Votes = change(in.Votes) }))
		}
		wantTaken(t, what+": all four", changed(in, func(in *api.Input) { in.Votes = polka(1, x, 1, 2, 3, 4) }))
		wantTaken(t, what+": other three", changed(in, func(in *api.Input) { in.Votes = polka(1, x, 1, 3, 4) }))
		wantTaken(t, what+": seals and times", changed(in, func(in *api.Input) {
			in.Votes[0].Seal[0], in.Votes[1].Time, in.Votes[2].Time = 1, 7, math.MaxUint64
		}))
		wantTaken(t, what+": not a good block", bad(in))
	}
	for _, round := range []int{0, 1, 5, 6, 1000, api.MaxRound} {
		wantTaken(t, "InPolka of any round", shown(round, x, 2, 3, 4))
	}
	for _, round := range []int{math.MinInt, -1, api.MaxRound + 1, math.MaxInt} {
		wantInput(t, "InPolka of no round", shown(round, x, 2, 3, 4))
	}
}

// TestPolkaPower: a quorum is one of power, and just reached.
func TestPolkaPower(t *testing.T) {
	for _, c := range []struct {
		powers []uint64
		from   []api.Addr
		want   api.Errno
	}{
		{[]uint64{1, 2, 3}, []api.Addr{2, 3}, api.OK},
		{[]uint64{1, 2, 3}, []api.Addr{1, 3}, api.ErrInput}, // two thirds are no quorum
		{[]uint64{7, 1, 1, 1}, []api.Addr{1}, api.OK},
		{[]uint64{7, 1, 1, 1}, []api.Addr{2, 3, 4}, api.ErrInput},
		{[]uint64{6, 1, 1, 1}, []api.Addr{1}, api.ErrInput},
		{[]uint64{6, 1, 1, 1}, []api.Addr{1, 4}, api.OK},
		{[]uint64{1}, []api.Addr{1}, api.OK},
		{[]uint64{api.MaxSupply - 3, 1, 1, 1}, []api.Addr{1}, api.OK},
		{[]uint64{1 << 58, 1 << 58, 1 << 58}, []api.Addr{1, 2}, api.ErrInput},
		{[]uint64{1 << 58, 1 << 58, 1 << 58}, []api.Addr{1, 2, 3}, api.OK},
	} {
		w := worldOf(t, councilOf(c.powers...), ticks, 9)
		if _, e := w.e.Take(shown(0, x, c.from...)); e != c.want {
			t.Errorf("E2: %v of %v: error %d, want %d", c.from, c.powers, e, c.want)
		}
	}
}

// TestVotes: what a vote may be.
func TestVotes(t *testing.T) {
	in := prevoted(2, idOf(x), 1)
	for why, change := range map[string]func(*api.Vote){
		"height 0":       func(v *api.Vote) { v.Height = 0 },
		"another height": func(v *api.Vote) { v.Height = 2 },
		"no kind":        func(v *api.Vote) { v.Kind = 0 },
		"kind 3":         func(v *api.Vote) { v.Kind = 3 },
		"least kind":     func(v *api.Vote) { v.Kind = math.MinInt },
		"round -1":       func(v *api.Vote) { v.Round = -1 },
		"above MaxRound": func(v *api.Vote) { v.Round = api.MaxRound + 1 },
		"greatest round": func(v *api.Vote) { v.Round = math.MaxInt },
		"nobody":         func(v *api.Vote) { v.From = 0 },
		"no member":      func(v *api.Vote) { v.From = 5 },
	} {
		wantInput(t, "InVote: "+why, changed(in, func(in *api.Input) { change(&in.Votes[0]) }))
	}
	wantInput(t, "no vote", api.Input{Kind: api.InVote})
	wantInput(t, "two votes", api.Input{Kind: api.InVote, Votes: polka(2, x, 1, 2)})
	wantInput(t, "one twice", api.Input{Kind: api.InVote, Votes: polka(2, x, 1, 1)})
	for _, kind := range []int{api.Prevote, api.Precommit} {
		for _, round := range []int{0, 1, 2, 5, 6, api.MaxRound} {
			for _, id := range []api.Hash{none, idOf(x), {31: 1}} {
				v := vote(kind, round, id, 4)
				v.Time, v.Seal = math.MaxUint64, api.Seal{1}
				wantTaken(t, "a vote", voted(v))
			}
		}
	}
}

// TestTimeouts: what a wait that is over may be.
func TestTimeouts(t *testing.T) {
	for _, step := range []int{math.MinInt, -1, api.StepNew, api.StepDone, 5, math.MaxInt} {
		wantInput(t, "InTimeout: a step", over(step, 2))
	}
	for _, step := range []int{api.StepPropose, api.StepPrevote, api.StepPrecommit} {
		for _, round := range []int{math.MinInt, -1, 3, api.MaxRound, math.MaxInt} {
			wantInput(t, "InTimeout: a round", over(step, round))
		}
		for round := range 3 {
			wantTaken(t, "InTimeout", over(step, round))
		}
	}
}

// TestBuilt: a block may come once, in the round in which it was asked for.
func TestBuilt(t *testing.T) {
	for _, round := range []int{math.MinInt, -1, 0, 1, 3, math.MaxInt} {
		wantInput(t, "InBuilt: a round", built(round, x))
	}
	w := ready(t)
	w.take("E4", built(2, x), doPropose(2, -1, x))
	w.refused("E2: it has come", built(2, x), api.ErrInput)
	w.refused("E2: it has come", built(2, y), api.ErrInput)
	w.take("E5", over(api.StepPrecommit, 2), doWait(api.StepPropose, 3, 12))
	w.refused("E2: nothing was asked for", built(3, y), api.ErrInput)
	w.refused("E2: a round that is over", built(2, y), api.ErrInput)

	w = newWorld(t, 1)
	w.refused("E2: ahead of the beginning", built(0, x), api.ErrInput)

	// It may come late, when others have gone on to the next step.
	w = ready(t)
	w.take("E4", over(api.StepPropose, 2), w.prevote(2, none))
	w.take("E4", over(api.StepPrevote, 2), w.precommit(2, none, 0))
	w.take("E4", built(2, x), doPropose(2, -1, x))
	w.at("E4", 2, api.StepPrecommit)
	// But not in another round.
	w = ready(t)
	w.take("E4", over(api.StepPrecommit, 2), doWait(api.StepPropose, 3, 12))
	w.refused("E2: a round that is over", built(2, x), api.ErrInput)
	w.refused("E2: not asked for in this one", built(3, x), api.ErrInput)
}

// TestState: a beginning ahead of which something has begun, a wait ahead of the beginning.
func TestState(t *testing.T) {
	w := newWorld(t, 3)
	for step := api.StepPropose; step <= api.StepPrecommit; step++ {
		w.refused("E2: not begun", over(step, 0), api.ErrState)
		w.refused("E2: a round that is not there", over(step, 1), api.ErrInput)
		w.refused("E2: Now", later(api.MaxTime+1, over(step, 0)), api.ErrInput)
	}
	w.refused("E2: no step", over(api.StepDone, 0), api.ErrInput)
	w.take("E4", start(), doWait(api.StepPropose, 0, 3))
	for range 2 {
		w.refused("E2: begun", start(), api.ErrState)
		w.refused("E2: Now", later(api.MaxTime+1, start()), api.ErrInput)
	}
	w.take("E4", over(api.StepPropose, 0), w.prevote(0, none))
	w.refused("E2: begun", start(), api.ErrState)
	w.take("E4", over(api.StepPrevote, 0), w.precommit(0, none, 0))
	w.refused("E2: begun", start(), api.ErrState)
	w.take("E4", over(api.StepPrecommit, 0), doWait(api.StepPropose, 1, 6))
	w.refused("E2: begun", start(), api.ErrState)
}

// finished is for 3, who has decided x in round 2 ahead of the block that it was asked for.
func finished(t *testing.T) *world {
	t.Helper()
	w := ready(t)
	w.take("R3", proposed(2, -1, x), w.prevote(2, idOf(x)))
	w.all("R1", precommitted(2, idOf(x), 1), precommitted(2, idOf(x), 2))
	w.take("R1", precommitted(2, idOf(x), 4), doDecide(x, cert(2, x, 1, 2, 4)))
	return w
}

// TestDone: when it is decided nothing happens any more; what can't be is still refused.
func TestDone(t *testing.T) {
	w := finished(t)
	view := w.e.View()
	if view.Step != api.StepDone || view.Round != 2 {
		t.Errorf("E7: %+v", view)
	}
	for range 2 {
		for what, in := range mayBe() { // what was asked for is one that has not come, each time
			w.all("E3: "+what, in)
		}
		w.all("E3", shown(7, y, 1, 2, 3), precommitted(9, idOf(y), 1), precommitted(9, idOf(y), 2), precommitted(2, idOf(y), 1), over(api.StepPrecommit, 2), over(api.StepPropose, 0))
		w.refused("E3: InStart", start(), api.ErrState)
		w.refused("E3: a round to come", over(api.StepPropose, 3), api.ErrInput)
		w.refused("E3: a round that is over", built(1, x), api.ErrInput)
		w.refused("E3: a vote of nobody", prevoted(2, idOf(x), 9), api.ErrInput)
		w.refused("E3: a proposal of another", changed(proposed(2, -1, x), func(in *api.Input) { in.Proposal.From = 1 }), api.ErrInput)
		w.refused("E3: a polka of too few", shown(1, x, 1, 2), api.ErrInput)
		w.refused("E3: Now", later(api.MaxTime+1, prevoted(2, idOf(x), 1)), api.ErrInput)
		if w.e.View() != view {
			t.Errorf("E3: %+v, was %+v", w.e.View(), view)
		}
		w.decided("E9", x, cert(2, x, 1, 2, 4))
		w.holds("E8")
	}
	// A block that has come ahead of the decision is one that has come.
	w = ready(t)
	w.take("E4", built(2, x), doPropose(2, -1, x))
	w.all("R1", precommitted(2, idOf(x), 1), precommitted(2, idOf(x), 2))
	w.take("R1", precommitted(2, idOf(x), 4), doDecide(x, cert(2, x, 1, 2, 4)))
	w.refused("E3: it has come", built(2, x), api.ErrInput)
}
