package engine_test

import (
	"math/rand"
	"slices"
	"testing"

	"assent/api"
	"assent/council"
	"assent/engine"
	"assent/tally"
	"assent/wire"
)

// model is an engine by another hand: it goes through the chapter's sentences one by one, over plain lists.
type model struct {
	height      uint64
	c           api.Council
	p           api.Params
	self        api.Addr
	t           *tally.Tally
	round, step int
	lockRound   int
	lockId      api.Hash
	lockBlock   api.Block
	validRound  int
	validId     api.Hash
	validBlock  api.Block
	validPolka  []api.Vote
	kept        []api.Input // InProposals, as they came
	askedIn     []int       // rounds
	builtIn     []int
	built       []api.Block // of the present round
	offered     []api.Msg   // likewise
	been        map[string]int
	dos         []api.Do
	now         uint64
	block       api.Block
	cert        api.Cert
	begun       []int // rounds that were begun by R2
}

func newModel(height uint64, c api.Council, p api.Params, self api.Addr) *model {
	t, e := tally.New(height, c)
	if e != api.OK {
		return nil
	}
	return &model{height: height, c: c, p: p, self: self, t: t, lockRound: -1, validRound: -1, been: map[string]int{}}
}

// polkaRound is the round of which the votes are a polka for the id, or -1.
func (m *model) polkaRound(votes []api.Vote, id api.Hash) int {
	power := uint64(0)
	for k, v := range votes {
		i := council.Index(m.c, v.From)
		if i < 0 || v.Kind != api.Prevote || v.Height != m.height || v.Id != id || v.Round < 0 || v.Round > api.MaxRound {
			return -1
		}
		if v.Round != votes[0].Round || k > 0 && v.From <= votes[k-1].From {
			return -1
		}
		power += m.c.Members[i].Power
	}
	if 3*power <= 2*council.Total(m.c) {
		return -1
	}
	return votes[0].Round
}

func contains(list []int, n int) bool {
	for _, x := range list {
		if x == n {
			return true
		}
	}
	return false
}

// refuses is E2.
func (m *model) refuses(in api.Input) api.Errno {
	used := map[int]string{api.InStart: "", api.InProposal: "pbvg", api.InVote: "v", api.InPolka: "bvg", api.InTimeout: "sr", api.InBuilt: "rb"}
	use, ok := used[in.Kind]
	if !ok || in.Now > api.MaxTime {
		return api.ErrInput
	}
	has := func(letter rune) bool {
		for _, l := range use {
			if l == letter {
				return true
			}
		}
		return false
	}
	b := in.Block
	b.Header, b.Last.Height, b.Last.Round, b.Last.Id = api.Header{}, 0, 0, none
	isBlock := in.Block.Header != api.Header{} || in.Block.Last.Height != 0 || in.Block.Last.Round != 0 || in.Block.Last.Id != none || len(b.Txs) > 0 || len(b.Evidence) > 0 || len(b.Last.Marks) > 0
	if in.Proposal != (api.Proposal{}) && !has('p') || isBlock && !has('b') || len(in.Votes) > 0 && !has('v') || in.Good && !has('g') || in.Step != 0 && !has('s') || in.Round != 0 && !has('r') {
		return api.ErrInput
	}
	var id api.Hash
	if has('b') {
		var e api.Errno
		if id, e = wire.BlockId(in.Block.Header); e != api.OK || in.Block.Header.Height != m.height {
			return api.ErrInput
		}
	}
	can := true
	switch in.Kind {
	case api.InProposal:
		p := in.Proposal
		from, e := council.Proposer(m.c, p.Round)
		can = e == api.OK && from == p.From && p.Height == m.height && p.ValidRound >= -1 && p.ValidRound < p.Round && p.Id == id
		if p.ValidRound == -1 {
			can = can && len(in.Votes) == 0
		} else {
			can = can && m.polkaRound(in.Votes, id) == p.ValidRound
		}
	case api.InPolka:
		can = m.polkaRound(in.Votes, id) >= 0
	case api.InVote:
		can = len(in.Votes) == 1
		if can {
			v := in.Votes[0]
			can = v.Height == m.height && (v.Kind == api.Prevote || v.Kind == api.Precommit) && v.Round >= 0 && v.Round <= api.MaxRound && council.Index(m.c, v.From) >= 0
		}
	case api.InTimeout:
		can = in.Step >= 1 && in.Step <= 3 && in.Round >= 0 && in.Round <= m.round
	case api.InBuilt:
		can = in.Round == m.round && contains(m.askedIn, in.Round) && !contains(m.builtIn, in.Round)
	}
	if !can {
		return api.ErrInput
	}
	if in.Kind == api.InStart && m.step != api.StepNew || in.Kind == api.InTimeout && m.step == api.StepNew {
		return api.ErrState
	}
	return api.OK
}

func (m *model) do(d api.Do) { m.dos = append(m.dos, d) }

func (m *model) vote(kind int, id api.Hash, time uint64) {
	if council.Index(m.c, m.self) >= 0 {
		m.do(api.Do{Kind: api.DoVote, Vote: api.Vote{Kind: kind, Height: m.height, Round: m.round, Id: id, Time: time, From: m.self}})
	}
	if kind == api.Prevote {
		m.step = api.StepPrevote
	} else {
		m.step = api.StepPrecommit
	}
}

func (m *model) wait(step int) {
	delay := uint64(m.round + 1)
	switch step {
	case api.StepPropose:
		delay *= m.p.Propose
	case api.StepPrevote:
		delay *= m.p.Votes
	default:
		delay *= 2 * m.p.Votes
	}
	m.do(api.Do{Kind: api.DoTimeout, Step: step, Round: m.round, Delay: delay})
}

func (m *model) add(votes []api.Vote) {
	for _, v := range votes {
		if a, _ := m.t.Add(v); a.Two {
			m.do(api.Do{Kind: api.DoEvidence, Evidence: a.Both})
		}
	}
}

func (m *model) propose(validRound int, id api.Hash, b api.Block, votes []api.Vote) {
	p := api.Proposal{Height: m.height, Round: m.round, ValidRound: validRound, Id: id, From: m.self}
	m.do(api.Do{Kind: api.DoPropose, Proposal: p, Block: b, Votes: votes})
	m.offered = []api.Msg{{Kind: api.MsgProposal, Proposal: p, Block: b, Votes: votes}}
}

// begin is E5.
func (m *model) begin(round int) {
	m.round, m.step = round, api.StepPropose
	m.t.Enter(round)
	m.been = map[string]int{}
	m.built, m.offered = nil, nil
	var kept []api.Input
	for _, in := range m.kept {
		if d := in.Proposal.Round - round; -api.Window <= d && d <= api.Window {
			kept = append(kept, in)
		}
	}
	m.kept = kept
	m.wait(api.StepPropose)
	if from, _ := council.Proposer(m.c, round); from != m.self {
		return
	}
	if m.validRound >= 0 && m.validRound < round {
		m.propose(m.validRound, m.validId, m.validBlock, m.validPolka)
		return
	}
	m.askedIn = append(m.askedIn, round)
	m.do(api.Do{Kind: api.DoBuild, Round: round})
}

// known is E6: the blocks of that id, the one that counts first.
func (m *model) known(id api.Hash) (list []api.Block) {
	for round := m.round - api.Window; round <= m.round+api.Window; round++ { // by rising round
		for _, in := range m.kept {
			if in.Proposal.Round == round && in.Proposal.Id == id && in.Good {
				list = append(list, in.Block)
			}
		}
	}
	if m.validRound >= 0 && m.validId == id {
		list = append(list, m.validBlock)
	}
	if m.lockRound >= 0 && m.lockId == id {
		list = append(list, m.lockBlock)
	}
	for _, b := range m.built {
		if idOf(b) == id {
			list = append(list, b)
		}
	}
	return list
}

// present is the proposal of the round, or none.
func (m *model) present() (list []api.Input) {
	for _, in := range m.kept {
		if in.Proposal.Round == m.round {
			list = append(list, in)
		}
	}
	return list
}

// isQuorum: the power is one.
func (m *model) isQuorum(power uint64) bool { return 3*power > 2*council.Total(m.c) }

// rule does what the first rule says that applies, and tells which; 0: none does.
func (m *model) rule() int {
	for round := max(0, m.round-api.Window); round <= m.round+api.Window; round++ {
		if id, ok := m.t.Quorum(api.Precommit, round); ok && id != none && len(m.known(id)) > 0 {
			m.block = m.known(id)[0]
			m.cert, _ = m.t.Cert(round, id)
			m.do(api.Do{Kind: api.DoDecide, Block: m.block, Cert: m.cert})
			m.step = api.StepDone
			return 1
		}
	}
	if round, ok := m.t.Skip(); ok {
		m.begin(round)
		m.begun = append(m.begun, round)
		return 2
	}
	if m.step == api.StepPropose {
		for _, in := range m.present() {
			p := in.Proposal
			free := m.lockRound == -1 || m.lockId == p.Id
			which := 3
			if p.ValidRound >= 0 {
				which, free = 4, m.lockRound <= p.ValidRound || m.lockId == p.Id
			}
			if free && in.Good {
				m.vote(api.Prevote, p.Id, 0)
			} else {
				m.vote(api.Prevote, none, 0)
			}
			return which
		}
	}
	id, quorum := m.t.Quorum(api.Prevote, m.round)
	if m.step == api.StepPrevote && m.isQuorum(m.t.Any(api.Prevote, m.round)) && m.been["R5"] == 0 {
		m.been["R5"]++
		m.wait(api.StepPrevote)
		return 5
	}
	if (m.step == api.StepPrevote || m.step == api.StepPrecommit) && quorum && id != none && len(m.known(id)) > 0 && m.been["R6"] == 0 {
		m.been["R6"]++
		b := m.known(id)[0]
		which := 9
		if m.step == api.StepPrevote {
			which = 6
			m.lockRound, m.lockId, m.lockBlock = m.round, id, b
			time := b.Header.Time + 1
			if time < m.now {
				time = m.now
			}
			if time > api.MaxTime {
				time = api.MaxTime
			}
			m.vote(api.Precommit, id, time)
		}
		m.validRound, m.validId, m.validBlock, m.validPolka = m.round, id, b, nil
		for _, v := range m.t.Votes(api.Prevote, m.round) {
			if v.Id == id {
				m.validPolka = append(m.validPolka, v)
			}
		}
		return which
	}
	if m.step == api.StepPrevote && quorum && id == none {
		m.vote(api.Precommit, none, 0)
		return 7
	}
	if m.isQuorum(m.t.Any(api.Precommit, m.round)) && m.been["R8"] == 0 {
		m.been["R8"]++
		m.wait(api.StepPrecommit)
		return 8
	}
	return 0
}

// take is Take; rules counts which ones have done something.
func (m *model) take(in api.Input, rules map[int]int) ([]api.Do, api.Errno) {
	if e := m.refuses(in); e != api.OK {
		return nil, e
	}
	if m.step == api.StepDone {
		return nil, api.OK
	}
	in.Block = trimmed(in.Block)
	m.dos, m.now, m.begun = nil, in.Now, nil
	m.add(in.Votes)
	switch in.Kind {
	case api.InStart:
		m.begin(0)
	case api.InProposal:
		twice := false
		for _, k := range m.kept {
			twice = twice || k.Proposal.Round == in.Proposal.Round
		}
		if d := in.Proposal.Round - m.round; !twice && d >= -api.Window && d <= api.Window {
			m.kept = append(m.kept, in)
		}
	case api.InPolka:
		if in.Good && in.Votes[0].Round > m.validRound {
			m.validRound, m.validId, m.validBlock, m.validPolka = in.Votes[0].Round, idOf(in.Block), in.Block, in.Votes
		}
	case api.InTimeout:
		switch {
		case in.Round < m.round, in.Step != api.StepPrecommit && in.Step != m.step:
		case in.Step == api.StepPropose:
			m.vote(api.Prevote, none, 0)
		case in.Step == api.StepPrevote:
			m.vote(api.Precommit, none, 0)
		case m.round < api.MaxRound:
			m.begin(m.round + 1)
		}
	case api.InBuilt:
		m.builtIn = append(m.builtIn, in.Round)
		m.built = []api.Block{in.Block}
		m.propose(-1, idOf(in.Block), in.Block, nil)
	}
	for m.step != api.StepNew && m.step != api.StepDone {
		which := m.rule()
		if which == 0 {
			break
		}
		rules[which]++
	}
	return m.dos, api.OK
}

// trimmed is the block with nil for empty lists.
func trimmed(b api.Block) api.Block {
	if len(b.Txs) == 0 {
		b.Txs = nil
	}
	if len(b.Evidence) == 0 {
		b.Evidence = nil
	}
	if len(b.Last.Marks) == 0 {
		b.Last.Marks = nil
	}
	return b
}

func (m *model) view() api.View {
	return api.View{Height: m.height, Round: m.round, Step: m.step, Locked: m.lockRound, LockId: m.lockId, Valid: m.validRound, ValidId: m.validId}
}

func (m *model) held() (list []api.Msg) {
	if m.step == api.StepNew || m.step == api.StepDone {
		return nil
	}
	list = append(list, m.offered...)
	if m.validRound >= 0 {
		list = append(list, api.Msg{Kind: api.MsgPolka, Block: m.validBlock, Votes: m.validPolka})
	}
	return append(list, heldVotes(m.t.Held()...)...)
}

// history is all that was handed to an engine and all that it asked for: what E11 to E15 speak of.
type history struct {
	t     *testing.T
	c     api.Council
	heard []api.Vote
	votes []api.Vote
	led   []api.Proposal
	done  int
}

// power is that of the members of whom such a vote was handed in.
func (h *history) power(such func(api.Vote) bool) (power uint64) {
	for _, member := range h.c.Members {
		for _, v := range h.heard {
			if v.From == member.Addr && such(v) {
				power += member.Power
				break
			}
		}
	}
	return power
}

func (h *history) isQuorum(kind, round int, id api.Hash) bool {
	power := h.power(func(v api.Vote) bool { return v.Kind == kind && v.Round == round && v.Id == id })
	return 3*power > 2*council.Total(h.c)
}

// hear notes an input that was taken, and what is to be done.
func (h *history) hear(in api.Input, dos []api.Do, skipped []int) {
	h.heard = append(h.heard, in.Votes...)
	for _, d := range dos {
		switch d.Kind {
		case api.DoVote:
			h.hearVote(d.Vote)
		case api.DoPropose:
			for _, p := range h.led {
				if p.Round == d.Proposal.Round {
					h.t.Fatalf("E11: two proposals of round %d", p.Round)
				}
			}
			h.led = append(h.led, d.Proposal)
		case api.DoDecide:
			h.hearDecision(d)
		}
	}
	for _, round := range skipped {
		if power := h.power(func(v api.Vote) bool { return v.Round >= round }); 3*power <= council.Total(h.c) {
			h.t.Fatalf("E15: round %d was begun by the power %d", round, power)
		}
	}
}

func (h *history) hearVote(v api.Vote) {
	for _, u := range h.votes {
		if u.Kind == v.Kind && u.Round == v.Round || u.Round > v.Round || u.Round == v.Round && u.Kind > v.Kind {
			h.t.Fatalf("E11: %s behind %s", tellVote(v), tellVote(u))
		}
		if u.Kind == api.Precommit && u.Id != none && v.Kind == api.Prevote && v.Id != none && v.Id != u.Id {
			reason := false
			for round := u.Round; round < v.Round; round++ {
				reason = reason || h.isQuorum(api.Prevote, round, v.Id)
			}
			if !reason {
				h.t.Fatalf("E12: %s behind %s", tellVote(v), tellVote(u))
			}
		}
	}
	if v.Kind == api.Precommit {
		if n := len(h.votes); n == 0 || h.votes[n-1].Kind != api.Prevote || h.votes[n-1].Round != v.Round {
			h.t.Fatalf("E11: a precommit without a prevote: %s", tellVote(v))
		}
		if v.Id != none && !h.isQuorum(api.Prevote, v.Round, v.Id) {
			h.t.Fatalf("E13: %s", tellVote(v))
		}
	}
	h.votes = append(h.votes, v)
}

func (h *history) hearDecision(d api.Do) {
	if h.done++; h.done > 1 || d.Cert.Id != idOf(d.Block) {
		h.t.Fatalf("E14: %d decisions, of %x", h.done, d.Cert.Id)
	}
	power := uint64(0)
	for k, mark := range d.Cert.Marks {
		member := h.c.Members[mark.Index]
		v := api.Vote{Kind: api.Precommit, Height: d.Cert.Height, Round: d.Cert.Round, Id: d.Cert.Id, Time: mark.Time, From: member.Addr, Seal: mark.Seal}
		heard := false
		for _, u := range h.heard {
			heard = heard || u == v
		}
		if !heard || k > 0 && mark.Index <= d.Cert.Marks[k-1].Index {
			h.t.Fatalf("E14: mark %d was not handed in", k)
		}
		power += member.Power
	}
	if 3*power <= 2*council.Total(h.c) {
		h.t.Fatalf("E14: the power %d", power)
	}
}

// player makes up inputs that fit one another now and then.
type player struct {
	r      *rand.Rand
	m      *model
	blocks []api.Block
	round  int // what is being voted for just now
	kind   int
	id     api.Hash
}

func newPlayer(r *rand.Rand) *player {
	powers := [][]uint64{{1, 1, 1, 1}, {1, 2, 3}, {3, 1, 1, 1, 1}, {5}, {1, 1}, {1, 1, 1, 1, 1, 1, 1}, {1 << 57, 1 << 57, 1 << 57, 1<<57 + 1}}
	c := councilOf(powers[r.Intn(len(powers))]...)
	self := api.Addr(r.Intn(len(c.Members) + 2))
	p := &player{r: r, m: newModel(1, c, api.Params{Propose: 1 + uint64(r.Intn(9)), Votes: 1 + uint64(r.Intn(9))}, self)}
	for _, b := range []api.Block{x, y, z} {
		p.blocks = append(p.blocks, b, with(b, 99))
	}
	p.turnTo()
	return p
}

func (p *player) block() api.Block { return p.blocks[p.r.Intn(len(p.blocks))] }

// near is a round about the present one, seldom any.
func (p *player) near() int {
	if p.r.Intn(1500) == 0 {
		return p.r.Intn(api.MaxRound + 1)
	}
	switch p.r.Intn(30) {
	case 1:
		return p.m.round + 4 + p.r.Intn(4)
	case 2:
		return max(0, p.m.round-4-p.r.Intn(2))
	}
	return max(0, p.m.round+p.r.Intn(5)-2)
}

// turnTo makes up what is voted for from now on.
func (p *player) turnTo() {
	p.kind, p.round, p.id = 1+p.r.Intn(2), p.m.round, idOf(p.block())
	if p.r.Intn(3) == 0 {
		p.round = p.near()
	}
	if p.r.Intn(4) == 0 {
		p.id = none
	}
	if p.m.step == api.StepPrecommit && p.r.Intn(3) == 0 {
		p.kind = api.Prevote // a polka that comes late
	}
	if p.m.validRound >= 0 && p.r.Intn(3) == 0 {
		p.id = p.m.validId
	}
}

func (p *player) member() api.Addr {
	return p.m.c.Members[p.r.Intn(len(p.m.c.Members))].Addr
}

func (p *player) votes(round int, b api.Block) (votes []api.Vote) {
	for _, member := range p.m.c.Members {
		if p.r.Intn(6) > 0 {
			v := vote(api.Prevote, round, idOf(b), member.Addr)
			v.Seal[0] = byte(p.r.Intn(2))
			votes = append(votes, v)
		}
	}
	return votes
}

func (p *player) vote() api.Input {
	if p.r.Intn(8) == 0 {
		p.turnTo()
	}
	v := vote(p.kind, p.round, p.id, p.member())
	switch p.r.Intn(20) {
	case 0:
		v.Kind = 3 - v.Kind
	case 1:
		v.Id = idOf(p.block())
	case 2:
		v.Round = p.near()
	}
	if v.Kind == api.Precommit {
		v.Time = uint64(p.r.Intn(3))
	}
	v.Seal[0] = byte(p.r.Intn(2))
	return voted(v)
}

func (p *player) proposal() api.Input {
	round := p.near()
	if p.r.Intn(2) == 0 {
		round = p.m.round
	}
	from, _ := council.Proposer(p.m.c, round)
	b := p.block()
	in := proposedBy(from, round, -1, b)
	in.Good = p.r.Intn(5) > 0
	if p.r.Intn(2) == 0 && round > 0 {
		in.Proposal.ValidRound = max(0, round-1-p.r.Intn(3))
		in.Votes = p.votes(in.Proposal.ValidRound, b)
	}
	return in
}

// next is an input.
func (p *player) next() api.Input {
	in := api.Input{}
	switch n := p.r.Intn(100); {
	case n < 60:
		in = p.vote()
	case n < 72:
		in = p.proposal()
	case n < 78:
		b := p.block()
		in = api.Input{Kind: api.InPolka, Block: b, Votes: p.votes(p.near(), b), Good: p.r.Intn(4) > 0}
	case n < 90:
		in = over(1+p.r.Intn(3), max(0, p.m.round-p.r.Intn(8)/7))
	case n < 98:
		in = built(p.m.round, p.block())
	default:
		in = start()
	}
	in.Now = uint64(p.r.Intn(12))
	if p.r.Intn(40) == 0 {
		in.Now = api.MaxTime
	}
	if p.r.Intn(60) == 0 {
		in = spoilt(p.r, in)
	}
	return in
}

// TestModel: inputs from fixed seeds, held against the model and against what E10 to E15 promise.
func TestModel(t *testing.T) {
	rules, errors, dos := map[int]int{}, map[api.Errno]int{}, map[int]int{}
	late := 0
	for seed := range int64(900) {
		p := newPlayer(rand.New(rand.NewSource(seed)))
		m := p.m
		e, refusal := engine.New(1, m.c, m.p, m.self)
		second, _ := engine.New(1, m.c, m.p, m.self) // which never sees what the first one has refused
		if refusal != api.OK {
			t.Fatalf("E1: error %d", refusal)
		}
		h := &history{t: t, c: m.c}
		begin := p.r.Intn(12)
		for step := range 160 {
			in := p.next()
			if step == begin {
				in = start()
			}
			got, bad := e.Take(in)
			want, wantBad := m.take(in, rules)
			if bad != wantBad || !sameDos(got, want) {
				t.Fatalf("E2 to E6: seed %d, step %d, input %+v: error %d%s\nwant error %d%s", seed, step, in, bad, tell(got), wantBad, tell(want))
			}
			if bad == api.OK {
				if again, _ := second.Take(in); !sameDos(again, got) {
					t.Fatalf("E10: seed %d, step %d:%s\nwant%s", seed, step, tell(again), tell(got))
				}
				h.hear(in, got, m.begun)
			}
			wantSame(t, seed, e, m)
			errors[bad]++
			for _, d := range got {
				dos[d.Kind]++
			}
			if m.step == api.StepDone {
				if late++; p.r.Intn(8) == 0 {
					break
				}
			}
		}
	}
	for rule := 1; rule <= 9; rule++ { // 9: R6 of one who has precommitted already
		if rules[rule] < 60 {
			t.Errorf("R%d has done something %d times only", rule, rules[rule])
		}
	}
	for kind := api.DoBuild; kind <= api.DoEvidence; kind++ {
		if dos[kind] < 200 {
			t.Errorf("kind %d was asked for %d times only", kind, dos[kind])
		}
	}
	if errors[api.ErrInput] < 500 || errors[api.ErrState] < 500 || late < 500 {
		t.Errorf("%v, %d behind a decision", errors, late)
	}
}

// sameList: the same elements; a list that is empty is nil in both.
func sameList[T comparable](x, y []T) bool {
	return slices.Equal(x, y) && (x == nil) == (y == nil)
}

func sameCert(x, y api.Cert) bool {
	return x.Height == y.Height && x.Round == y.Round && x.Id == y.Id && sameList(x.Marks, y.Marks)
}

func sameBlock(x, y api.Block) bool {
	return x.Header == y.Header && sameList(x.Txs, y.Txs) && sameList(x.Evidence, y.Evidence) && sameCert(x.Last, y.Last)
}

func sameDo(x, y api.Do) bool {
	return x.Kind == y.Kind && x.Round == y.Round && x.Step == y.Step && x.Delay == y.Delay && x.Proposal == y.Proposal && x.Vote == y.Vote &&
		sameBlock(x.Block, y.Block) && sameList(x.Votes, y.Votes) && sameCert(x.Cert, y.Cert) && x.Evidence == y.Evidence
}

func sameMsg(x, y api.Msg) bool {
	return x.Kind == y.Kind && x.Proposal == y.Proposal && sameBlock(x.Block, y.Block) && sameList(x.Votes, y.Votes) &&
		sameCert(x.Cert, y.Cert) && x.Tx == y.Tx && x.Evidence == y.Evidence && x.Height == y.Height && x.Round == y.Round
}

func sameDos(x, y []api.Do) bool { return slices.EqualFunc(x, y, sameDo) }

func wantSame(t *testing.T, seed int64, e *engine.Engine, m *model) {
	t.Helper()
	if e.View() != m.view() {
		t.Fatalf("E7: seed %d: %+v, want %+v", seed, e.View(), m.view())
	}
	held, want := e.Held(), m.held()
	if !slices.EqualFunc(held, want, sameMsg) {
		t.Fatalf("E8: seed %d: %+v, want %+v", seed, held, want)
	}
	b, c, refusal := e.Decided()
	if (refusal == api.OK) != (m.step == api.StepDone) || !sameBlock(b, m.block) || !sameCert(c, m.cert) {
		t.Fatalf("E9: seed %d: %v, %v, error %d", seed, b, c, refusal)
	}
}
