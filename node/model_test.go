package node_test

import (
	"reflect"
	"slices"
	"sort"

	"assent/api"
	"assent/archive"
	"assent/chain"
	"assent/council"
	"assent/disk"
	"assent/engine"
	"assent/misdeed"
	"assent/pool"
	"assent/seal"
	"assent/wal"
	"assent/wire"
)

// model is a node by another hand: it goes through the chapter's sentences one by one, over plain lists, plays every chain from its beginning, and answers errors where the node gives up.
type model struct {
	d                  *disk.Disk
	r                  *seal.Registry
	s                  *seal.Signer
	ar                 *archive.Archive
	states             []api.State // behind the heights 0, 1, ..
	en                 *engine.Engine
	log                *wal.Log
	start, next, clock uint64
	waits              []modelWait // as they were set
	txs                *pool.Pool
	bad                *misdeed.Pool
	fresh              []api.Evidence
	come               []api.Input
	forms              []string    // of these
	left               []api.Input // of the log that is played
	out                []api.Out
	dead               bool
}

type modelWait struct {
	step, round int
	time        uint64
}

func atMost(t uint64) uint64 {
	if t > api.MaxTime {
		return api.MaxTime
	}
	return t
}

func (m *model) st() api.State { return m.states[len(m.states)-1] }

func (m *model) h() uint64 { return m.st().Height + 1 }

// openModel is N4, of a disk that nodes alone have written.
func openModel(g api.Genesis, d *disk.Disk, r *seal.Registry, s *seal.Signer, now uint64) (*model, api.Errno) {
	first, e := chain.Begin(g)
	if e != api.OK {
		return nil, e
	}
	m := &model{d: d, r: r, s: s, states: []api.State{first}, clock: now, bad: misdeed.New()}
	m.txs, _ = pool.New(api.MaxPool)
	if m.ar, e = archive.Open(d); e != api.OK {
		return nil, e
	}
	for h := uint64(1); h <= m.ar.Head(); h++ {
		b, c, e := m.ar.Load(h)
		if e != api.OK {
			return nil, e
		}
		next, e := chain.Apply(m.st(), r, b)
		if e != api.OK || chain.CheckCert(m.st().Council, r, g.Chain, c) != api.OK {
			return nil, api.ErrSpoilt
		}
		m.states = append(m.states, next)
	}
	var recs [][]byte
	if m.log, recs, e = wal.Open(d, logName(m.h())); e != api.OK {
		return nil, e
	}
	if e := m.log.Sync(); e != api.OK {
		return nil, e
	}
	for _, rec := range recs {
		in, e := wire.DecodeInput(rec)
		if e != api.OK {
			return nil, api.ErrSpoilt
		}
		m.left = append(m.left, in)
		if in.Now > m.clock {
			m.clock = in.Now
		}
	}
	m.start, m.next = atMost(now+g.Params.Pause), atMost(now+g.Params.Resend)
	m.en, _ = engine.New(m.h(), m.st().Council, g.Params, s.Addr())
	for h := m.h(); len(m.left) > 0 && m.h() == h; {
		in := m.left[0]
		m.left = m.left[1:]
		for k, x := range m.waits {
			if in.Kind == api.InTimeout && x.step == in.Step && x.round == in.Round {
				m.waits = append(append([]modelWait{}, m.waits[:k]...), m.waits[k+1:]...)
				break
			}
		}
		if e := m.follow(m.take(in), in.Now); e != api.OK {
			return nil, e
		}
	}
	m.left = nil
	return m, api.OK
}

// bare is an input without what does not count for whether it has come.
func bare(in api.Input) api.Input {
	in.Now, in.Good = 0, false
	return in
}

func formOf(in api.Input) string {
	b, _ := wire.EncodeInput(bare(in))
	return string(b)
}

func (m *model) hasCome(in api.Input) bool { return slices.Contains(m.forms, formOf(in)) }

func (m *model) take(in api.Input) []api.Do {
	m.come, m.forms = append(m.come, bare(in)), append(m.forms, formOf(in))
	dos, _ := m.en.Take(in)
	return dos
}

func (m *model) write(in api.Input) api.Errno {
	b, _ := wire.EncodeInput(in)
	e := m.log.Append(b)
	if e == api.OK {
		e = m.log.Sync()
	}
	m.dead = m.dead || e != api.OK
	return e
}

// handIn is N1.
func (m *model) handIn(in api.Input) api.Errno {
	in.Now = m.clock
	if e := m.write(in); e != api.OK {
		return e
	}
	return m.follow(m.take(in), in.Now)
}

func (m *model) all(x api.Msg) {
	if b, e := wire.EncodeMsg(x); e == api.OK {
		m.out = append(m.out, api.Out{To: -1, Bytes: b})
	}
}

func (m *model) seal(p *api.Proposal) {
	b, _ := wire.ProposalBytes(m.st().Chain, *p)
	p.Seal, _ = m.s.Sign(b)
}

// follow is N2.
func (m *model) follow(dos []api.Do, now uint64) api.Errno {
	for h := m.h(); len(dos) > 0 && m.h() == h; {
		d := dos[0]
		dos = dos[1:]
		switch d.Kind {
		case api.DoVote:
			b, _ := wire.VoteBytes(m.st().Chain, d.Vote)
			d.Vote.Seal, _ = m.s.Sign(b)
			m.all(voted(d.Vote))
			dos = append(dos, m.take(api.Input{Kind: api.InVote, Now: now, Votes: []api.Vote{d.Vote}})...)
		case api.DoPropose:
			m.seal(&d.Proposal)
			m.all(api.Msg{Kind: api.MsgProposal, Proposal: d.Proposal, Block: d.Block, Votes: d.Votes})
			dos = append(dos, m.take(api.Input{Kind: api.InProposal, Now: now, Proposal: d.Proposal, Block: d.Block, Votes: d.Votes, Good: true})...)
		case api.DoBuild:
			if len(m.left) > 0 {
				if x := m.left[0]; x.Kind == api.InBuilt && x.Round == d.Round {
					m.left = m.left[1:]
					dos = append(dos, m.take(x)...)
				}
				continue
			}
			_, last, e := m.ar.Load(m.h() - 1)
			if e != api.OK && m.h() > 1 {
				continue
			}
			b, e := chain.Make(m.st(), m.r, m.txs.Pick(m.st(), m.r, m.s.Addr()), m.bad.Pick(m.st(), m.r), last, m.s.Addr())
			if e != api.OK {
				continue
			}
			in := api.Input{Kind: api.InBuilt, Now: now, Round: d.Round, Block: b}
			if e := m.write(in); e != api.OK {
				return e
			}
			dos = append(dos, m.take(in)...)
		case api.DoTimeout:
			m.waits = append(m.waits, modelWait{d.Step, d.Round, atMost(now + d.Delay)})
		case api.DoEvidence:
			known := false
			for _, x := range m.fresh {
				known = known || x.A.From == d.Evidence.A.From
			}
			if !known {
				m.fresh = append(m.fresh, d.Evidence)
			}
		case api.DoDecide:
			if e := m.decide(d.Block, d.Cert, now); e != api.OK {
				return e
			}
		}
	}
	return api.OK
}

// decide is N3.
func (m *model) decide(b api.Block, c api.Cert, t uint64) api.Errno {
	next, e := chain.Apply(m.st(), m.r, b)
	if e != api.OK { // of a log that is forged alone
		m.dead = true
		return api.ErrSpoilt
	}
	if e := m.ar.Save(b, c); e != api.OK {
		m.dead = true
		return e
	}
	m.states = append(m.states, next)
	if next.Height%8 == 0 {
		if e := m.ar.Note(next); e != api.OK {
			m.dead = true
			return e
		}
	}
	m.bad.Settle(next, b.Evidence)
	sort.Slice(m.fresh, func(x, y int) bool { return m.fresh[x].A.From < m.fresh[y].A.From })
	for _, x := range m.fresh {
		if m.bad.Add(next, m.r, x) == api.OK {
			m.all(api.Msg{Kind: api.MsgEvidence, Evidence: x})
		}
	}
	m.txs.Recheck(next)
	m.waits, m.fresh, m.come, m.forms = nil, nil, nil, nil
	m.en, _ = engine.New(m.h(), next.Council, next.Params, m.s.Addr())
	if m.log, _, e = wal.Open(m.d, logName(m.h())); e != api.OK {
		m.dead = true
		return e
	}
	m.start = atMost(t + next.Params.Pause)
	return api.OK
}

// tick is N6.
func (m *model) tick(now uint64) api.Errno {
	if m.dead {
		return api.ErrDead
	}
	if now > api.MaxTime {
		return api.ErrArg
	}
	if now > m.clock {
		m.clock = now
	}
	var due, rest []modelWait
	for _, x := range m.waits {
		if x.time <= m.clock {
			due = append(due, x)
		} else {
			rest = append(rest, x)
		}
	}
	sort.SliceStable(due, func(x, y int) bool { return due[x].time < due[y].time })
	m.waits = rest
	h := m.h()
	if m.en.View().Step == api.StepNew && m.start <= m.clock {
		if e := m.handIn(api.Input{Kind: api.InStart}); e != api.OK {
			return e
		}
	}
	for _, x := range due {
		if m.h() == h {
			if e := m.handIn(api.Input{Kind: api.InTimeout, Step: x.step, Round: x.round}); e != api.OK {
				return e
			}
		}
	}
	if m.next <= m.clock {
		m.next = atMost(m.clock + m.st().Params.Resend)
		m.all(api.Msg{Kind: api.MsgStatus, Height: m.h(), Round: m.en.View().Round})
		for _, x := range m.en.Held() {
			if x.Kind == api.MsgProposal {
				m.seal(&x.Proposal)
			}
			m.all(x)
		}
	}
	return api.OK
}

func (m *model) submit(x api.Tx) api.Errno {
	if m.dead {
		return api.ErrDead
	}
	e := m.txs.Add(m.st(), m.r, x)
	if e == api.OK {
		m.all(api.Msg{Kind: api.MsgTx, Tx: x})
	}
	return e
}

// sealed: are all these votes rightly sealed?
func (m *model) sealed(votes []api.Vote) bool {
	for _, v := range votes {
		b, e := wire.VoteBytes(m.st().Chain, v)
		if e != api.OK || !m.r.Check(v.From, b, v.Seal) {
			return false
		}
	}
	return true
}

// polkaOf: of which id and round are the votes a polka? -1: of none.
func (m *model) polkaOf(votes []api.Vote) (api.Hash, int) {
	c := m.st().Council
	power := uint64(0)
	for _, v := range votes {
		i := council.Index(c, v.From)
		if i < 0 || v.Kind != api.Prevote || v.Height != m.h() || v.Round != votes[0].Round || v.Id != votes[0].Id {
			return none, -1
		}
		power += c.Members[i].Power
	}
	if 3*power <= 2*council.Total(c) {
		return none, -1
	}
	return votes[0].Id, votes[0].Round
}

// deliver is N5.
func (m *model) deliver(from int, b []byte) api.Errno {
	if m.dead {
		return api.ErrDead
	}
	x, e := wire.DecodeMsg(b)
	if e != api.OK {
		return e
	}
	st := m.st()
	id, _ := wire.BlockId(x.Block.Header)
	in := api.Input{Proposal: x.Proposal, Block: x.Block, Votes: x.Votes}
	switch x.Kind {
	case api.MsgStatus:
		if from < 0 {
			return api.ErrSource
		}
		if x.Height < m.h() {
			b, c, e := m.ar.Load(x.Height)
			if e != api.OK {
				return e
			}
			form, _ := wire.EncodeMsg(decision(b, c))
			m.out = append(m.out, api.Out{To: from, Bytes: form})
		}
		return api.OK
	case api.MsgTx:
		return m.txs.Add(st, m.r, x.Tx)
	case api.MsgEvidence:
		return m.bad.Add(st, m.r, x.Evidence)
	case api.MsgDecision:
		if x.Block.Header.Height != m.h() {
			return api.ErrSource
		}
		if x.Cert.Height != m.h() || x.Cert.Id != id {
			return api.ErrCert
		}
		if e := chain.CheckCert(st.Council, m.r, st.Chain, x.Cert); e != api.OK {
			return e
		}
		if e := chain.Valid(st, m.r, x.Block); e != api.OK {
			return e
		}
		return m.decide(x.Block, x.Cert, m.clock)
	case api.MsgProposal:
		in.Kind = api.InProposal
		p := x.Proposal
		if who, _ := council.Proposer(st.Council, p.Round); p.Height != m.h() || who != p.From {
			return api.ErrSource
		}
		if b, _ := wire.ProposalBytes(st.Chain, p); !m.r.Check(p.From, b, p.Seal) {
			return api.ErrSeal
		}
		if p.Id != id || x.Block.Header.Height != m.h() {
			return api.ErrInput
		}
		if polka, round := m.polkaOf(x.Votes); p.ValidRound >= 0 && (polka != id || round != p.ValidRound) {
			return api.ErrInput
		}
	case api.MsgVote:
		in.Kind = api.InVote
		if x.Votes[0].Height != m.h() {
			return api.ErrSource
		}
		if council.Index(st.Council, x.Votes[0].From) < 0 {
			return api.ErrMember
		}
	case api.MsgPolka:
		in.Kind = api.InPolka
		if x.Block.Header.Height != m.h() {
			return api.ErrSource
		}
		if polka, round := m.polkaOf(x.Votes); polka != id || round < 0 {
			return api.ErrInput
		}
	}
	if !m.sealed(x.Votes) {
		return api.ErrSeal
	}
	if m.hasCome(in) {
		return api.OK
	}
	in.Good = x.Kind != api.MsgVote && chain.Valid(st, m.r, x.Block) == api.OK
	return m.handIn(in)
}

func (m *model) answer(h uint64) (api.LightBlock, api.Errno) {
	b, c, e := m.ar.Load(h)
	if e != api.OK {
		return api.LightBlock{}, e
	}
	return api.LightBlock{Header: b.Header, Cert: c, Council: m.states[h-1].Council}, api.OK
}

func sameState(x, y api.State) bool {
	a, e := wire.EncodeState(x)
	b, refusal := wire.EncodeState(y)
	return e == api.OK && refusal == api.OK && reflect.DeepEqual(a, b)
}
