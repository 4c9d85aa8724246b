package node_test

import (
	"reflect"
	"slices"
	"strconv"
	"strings"
	"testing"

	"assent/api"
	"assent/chain"
	"assent/council"
	"assent/disk"
	"assent/node"
	"assent/seal"
	"assent/wal"
	"assent/wire"
)

const (
	name  = "c"
	limit = 1 << 22 // of a disk
)

var none api.Hash

// genesis is that of the chapter's examples, with so many members, 1, 2, .., of the bond 10 each.
func genesis(members int) api.Genesis {
	g := api.Genesis{Chain: name, Time: 100, Params: api.Params{MinBond: 1, Seats: 8, Slash: 500, Period: 9, Age: 4, MaxTxs: 9, Propose: 5, Votes: 3, Pause: 2, Resend: 50, Trusting: 9}}
	for a := range members {
		g.Accounts = append(g.Accounts, api.Account{Addr: api.Addr(a + 1), Balance: 100, Bond: 10})
	}
	return g
}

// world is a chain's beginning, the book of seals with everybody's signers, and one machine.
type world struct {
	t       *testing.T
	g       api.Genesis
	r       *seal.Registry
	signers map[api.Addr]*seal.Signer
	own     api.Addr // 0: its node looks on
	d       *disk.Disk
	n       *node.Node
}

// newWorld has no node yet.
func newWorld(t *testing.T, g api.Genesis, own api.Addr) *world {
	t.Helper()
	w := &world{t: t, g: g, r: seal.New(), signers: map[api.Addr]*seal.Signer{}, own: own}
	w.d, _ = disk.New(limit)
	return w
}

// begin is the world of so many members, the node of one of them opened at 100 on an empty disk.
func begin(t *testing.T, members int, own api.Addr) *world {
	t.Helper()
	w := newWorld(t, genesis(members), own)
	w.open(100)
	return w
}

// alone is the chain of one member, behind so many blocks; it is Pause ticks ahead of the next.
func alone(t *testing.T, blocks int) *world {
	t.Helper()
	w := begin(t, 1, 1)
	for range blocks {
		w.tick("N6", w.n.Clock()+2, api.OK)
	}
	if got := w.n.State().Height; got != uint64(blocks) {
		t.Fatalf("N3: height %d, want %d", got, blocks)
	}
	w.n.Out()
	return w
}

// started is the world of so many members at the height 1, which has begun at 102.
func started(t *testing.T, members int, own api.Addr) *world {
	t.Helper()
	w := begin(t, members, own)
	w.tick("N6", 102, api.OK)
	if got := w.n.View().Step; got == api.StepNew {
		t.Fatalf("N6: step %d", got)
	}
	return w
}

func (w *world) signer(a api.Addr) *seal.Signer {
	if a != 0 && w.signers[a] == nil {
		w.signers[a], _ = w.r.Enter(a)
	}
	return w.signers[a]
}

func (w *world) open(now uint64) {
	w.t.Helper()
	w.is("N4", w.tryOpen(now), api.OK)
	if w.n == nil {
		w.t.Fatalf("N4: no node")
	}
}

func (w *world) tryOpen(now uint64) api.Errno {
	w.t.Helper()
	n, e := node.Open(w.g, w.d, w.r, w.signer(w.own), now)
	if (n == nil) != (e != api.OK) {
		w.t.Fatalf("G2: error %d, and a node: %v", e, n != nil)
	}
	w.n = n
	return e
}

// crash takes the power away, and mounts what the disk has left.
func (w *world) crash(keep ...int) {
	w.t.Helper()
	im, e := w.d.Crash(keep, 0)
	w.is("Crash", e, api.OK)
	w.mount(im)
}

func (w *world) mount(im api.Image) {
	w.t.Helper()
	var e api.Errno
	w.d, e = disk.Mount(im, limit)
	w.is("Mount", e, api.OK)
}

func (w *world) arm(at, kind int, done bool) {
	w.t.Helper()
	w.is("Arm", w.d.Arm(api.Trouble{At: at, Kind: kind, Done: done}), api.OK)
}

func (w *world) is(what string, got, want api.Errno) {
	w.t.Helper()
	if got != want {
		w.t.Fatalf("%s: error %d, want %d", what, got, want)
	}
}

func (w *world) tick(what string, now uint64, want api.Errno) {
	w.t.Helper()
	w.is(what, w.n.Tick(now), want)
}

func (w *world) deliver(what string, m api.Msg, want api.Errno) {
	w.t.Helper()
	w.is(what, w.n.Deliver(0, form(w.t, m)), want)
}

func form(t *testing.T, m api.Msg) []byte {
	t.Helper()
	b, e := wire.EncodeMsg(m)
	if e != api.OK {
		t.Fatalf("EncodeMsg of kind %d: error %d", m.Kind, e)
	}
	return b
}

// out is what is to be sent, read.
func (w *world) out() (to []int, all []api.Msg) {
	w.t.Helper()
	for _, o := range w.n.Out() {
		m, e := wire.DecodeMsg(o.Bytes)
		if e != api.OK {
			w.t.Fatalf("P15.6: error %d", e)
		}
		to, all = append(to, o.To), append(all, m)
	}
	return to, all
}

// sent are the messages that are to be sent, which are of these kinds, each to all.
func (w *world) sent(what string, kinds ...int) []api.Msg {
	w.t.Helper()
	to, all := w.out()
	var got []int
	for k, m := range all {
		got = append(got, m.Kind)
		if to[k] != -1 {
			w.t.Fatalf("%s: sent to %d", what, to[k])
		}
	}
	if !slices.Equal(got, kinds) {
		w.t.Fatalf("%s: the kinds %v are sent, want %v", what, got, kinds)
	}
	return all
}

// votes are what is to be sent, which is these votes of own, sealed.
func (w *world) votes(what string, want ...api.Vote) {
	w.t.Helper()
	for k, m := range w.sent(what, slices.Repeat([]int{api.MsgVote}, len(want))...) {
		if got := m.Votes[0]; got != w.vote(want[k]) {
			w.t.Fatalf("%s: the vote %+v is sent, want %+v", what, got, want[k])
		}
	}
}

func logName(height uint64) string {
	digits := strconv.FormatUint(height, 16)
	return "wal-" + strings.Repeat("0", 16-len(digits)) + digits
}

func blockName(height uint64) string { return "block-" + logName(height)[4:] }

// records are the inputs that stand in the log of a height, all of them synced.
func (w *world) records(height uint64) []api.Input {
	w.t.Helper()
	b, e := w.d.Read(logName(height))
	if e == api.ErrNoFile {
		return nil
	}
	if size, synced, _ := w.d.Size(logName(height)); size != synced {
		w.t.Fatalf("N1: of %d bytes of the log %d are synced", size, synced)
	}
	recs, end := wal.Scan(b)
	if e != api.OK || end != len(b) {
		w.t.Fatalf("N1: error %d, %d of %d bytes are records", e, end, len(b))
	}
	var all []api.Input
	for _, rec := range recs {
		in, e := wire.DecodeInput(rec)
		w.is("N1: a record", e, api.OK)
		all = append(all, in)
	}
	return all
}

// wrote are the records of the height that is being decided, from the one at a place on.
func (w *world) wrote(what string, from int, want ...api.Input) {
	w.t.Helper()
	got := w.records(w.height())
	if len(got) < from || !slices.EqualFunc(got[from:], want, likeInput) {
		w.t.Fatalf("%s: %d records behind the first %d, want %d: %s, want %s", what, len(got)-from, from, len(want), inputs(got), inputs(want))
	}
}

// likeInput: are they the same? An empty list and nil are.
func likeInput(x, y api.Input) bool {
	a, e := wire.EncodeInput(x)
	b, refusal := wire.EncodeInput(y)
	return e == api.OK && refusal == api.OK && slices.Equal(a, b)
}

// inputs tells inputs in short.
func inputs(l []api.Input) string {
	var s []string
	for _, in := range l {
		s = append(s, "kind "+strconv.Itoa(in.Kind)+" now "+strconv.FormatUint(in.Now, 10)+" step "+strconv.Itoa(in.Step)+" round "+strconv.Itoa(in.Round)+" good "+strconv.FormatBool(in.Good)+" votes "+strconv.Itoa(len(in.Votes)))
	}
	return strings.Join(s, "; ")
}

// putLog writes a log of these inputs, synced.
func (w *world) putLog(height uint64, all ...api.Input) {
	w.t.Helper()
	for _, in := range all {
		b, e := wire.EncodeInput(in)
		w.is("EncodeInput", e, api.OK)
		w.putRecord(height, b)
	}
}

func (w *world) putRecord(height uint64, rec []byte) {
	w.t.Helper()
	b, e := wal.Frame(rec)
	w.is("Frame", e, api.OK)
	w.is("Append", w.d.Append(logName(height), b), api.OK)
	w.is("Sync", w.d.Sync(logName(height)), api.OK)
}

// height is the one that is being decided.
func (w *world) height() uint64 { return w.n.State().Height + 1 }

// vote seals a vote by its member.
func (w *world) vote(v api.Vote) api.Vote {
	w.t.Helper()
	msg, e := wire.VoteBytes(w.g.Chain, v)
	w.is("VoteBytes", e, api.OK)
	v.Seal, _ = w.signer(v.From).Sign(msg)
	return v
}

func (w *world) prevote(round int, id api.Hash, from api.Addr) api.Vote {
	w.t.Helper()
	return w.vote(api.Vote{Kind: api.Prevote, Height: w.height(), Round: round, Id: id, From: from})
}

func (w *world) precommit(round int, id api.Hash, time uint64, from api.Addr) api.Vote {
	w.t.Helper()
	return w.vote(api.Vote{Kind: api.Precommit, Height: w.height(), Round: round, Id: id, Time: time, From: from})
}

func voted(v api.Vote) api.Msg { return api.Msg{Kind: api.MsgVote, Votes: []api.Vote{v}} }

// block is one that a member makes behind the node's state.
func (w *world) block(by api.Addr, txs ...api.Tx) api.Block {
	w.t.Helper()
	st := w.n.State()
	_, last, _ := w.n.Block(st.Height)
	b, e := chain.Make(st, w.r, txs, nil, last, by)
	w.is("Make", e, api.OK)
	return b
}

func idOf(b api.Block) api.Hash {
	id, _ := wire.BlockId(b.Header)
	return id
}

func (w *world) proposer(round int) api.Addr {
	w.t.Helper()
	a, e := council.Proposer(w.n.State().Council, round)
	w.is("Proposer", e, api.OK)
	return a
}

// sealProposal seals the proposal of a message by its member.
func (w *world) sealProposal(m api.Msg) api.Msg {
	w.t.Helper()
	msg, e := wire.ProposalBytes(w.g.Chain, m.Proposal)
	w.is("ProposalBytes", e, api.OK)
	m.Proposal.Seal, _ = w.signer(m.Proposal.From).Sign(msg)
	return m
}

// proposal is that of a round by whose turn it is.
func (w *world) proposal(round, validRound int, b api.Block, votes ...api.Vote) api.Msg {
	w.t.Helper()
	p := api.Proposal{Height: w.height(), Round: round, ValidRound: validRound, Id: idOf(b), From: w.proposer(round)}
	return w.sealProposal(api.Msg{Kind: api.MsgProposal, Proposal: p, Block: b, Votes: votes})
}

// polka are prevotes for a block by these members.
func (w *world) polka(round int, id api.Hash, from ...api.Addr) (votes []api.Vote) {
	w.t.Helper()
	for _, a := range from {
		votes = append(votes, w.prevote(round, id, a))
	}
	return votes
}

// cert is a certificate of a block by these members, who give one time.
func (w *world) cert(round int, b api.Block, time uint64, from ...api.Addr) api.Cert {
	w.t.Helper()
	c := api.Cert{Height: b.Header.Height, Round: round, Id: idOf(b)}
	for _, a := range from {
		v := w.vote(api.Vote{Kind: api.Precommit, Height: c.Height, Round: round, Id: c.Id, Time: time, From: a})
		c.Marks = append(c.Marks, api.Mark{Index: council.Index(w.n.State().Council, a), Time: time, Seal: v.Seal})
	}
	return c
}

func decision(b api.Block, c api.Cert) api.Msg {
	return api.Msg{Kind: api.MsgDecision, Block: b, Cert: c}
}

// grow has the node learn of so many blocks that 2, 3 and 4 have decided at its clock.
func (w *world) grow(blocks int) {
	w.t.Helper()
	for range blocks {
		b := w.block(2)
		w.deliver("N5", decision(b, w.cert(0, b, max(b.Header.Time+1, w.n.Clock()), 2, 3, 4)), api.OK)
	}
}

func (w *world) pay(from, to api.Addr, amount, fee, nonce uint64) api.Tx {
	w.t.Helper()
	return w.sealTx(api.Tx{Kind: api.TxPay, From: from, To: to, Amount: amount, Fee: fee, Nonce: nonce})
}

// told is all that a node tells, its disk and the book beside it.
type told struct {
	State   api.State
	View    api.View
	Clock   uint64
	Dead    bool
	Pool    []api.Tx
	Blocks  []api.Block
	Certs   []api.Cert
	Answers []api.LightBlock
	Errors  []api.Errno
	Calls   int
	Names   []string
	Signed  int
}

func (w *world) told() told {
	return told{Calls: w.d.Calls(), Names: w.d.Names(), Signed: w.r.Count()}.of(w.n)
}

// of lays beside it what the node tells.
func (x told) of(n *node.Node) told {
	x.State, x.View, x.Clock, x.Dead, x.Pool = n.State(), n.View(), n.Clock(), n.Dead(), n.Pool()
	for h := range x.State.Height + 2 {
		b, c, e := n.Block(h)
		a, refusal := n.Answer(h)
		x.Blocks, x.Certs, x.Answers, x.Errors = append(x.Blocks, b), append(x.Certs, c), append(x.Answers, a), append(x.Errors, e, refusal)
	}
	return x
}

// unchanged: nothing is to be sent, and all else is as it was.
func (w *world) unchanged(what string, was told) {
	w.t.Helper()
	if got := w.told(); !reflect.DeepEqual(got, was) {
		w.t.Fatalf("%s: something has changed: %+v, it was %+v", what, got, was)
	}
	w.sent(what)
}

// refuses: the message is refused, and nothing has changed.
func (w *world) refuses(what string, m api.Msg, want api.Errno) {
	w.t.Helper()
	w.n.Out()
	was := w.told()
	w.deliver(what, m, want)
	w.unchanged(what, was)
}

// view: the round, the step, and the rounds of what is locked and valid.
func (w *world) view(what string, round, step, locked, valid int) {
	w.t.Helper()
	v := w.n.View()
	if v.Height != w.height() || v.Round != round || v.Step != step || v.Locked != locked || v.Valid != valid {
		w.t.Fatalf("%s: height %d, round %d, step %d, locked %d, valid %d; want %d, %d, %d, %d, %d", what, v.Height, v.Round, v.Step, v.Locked, v.Valid, w.height(), round, step, locked, valid)
	}
}

// at: the height of the state, and whether the node is dead.
func (w *world) at(what string, height uint64, dead bool) {
	w.t.Helper()
	if got := w.n.State().Height; got != height || w.n.Dead() != dead {
		w.t.Fatalf("%s: height %d, dead: %v; want %d, %v", what, got, w.n.Dead(), height, dead)
	}
}

func (w *world) sealTx(x api.Tx) api.Tx {
	w.t.Helper()
	msg, e := wire.TxBytes(w.g.Chain, x)
	w.is("TxBytes", e, api.OK)
	x.Seal, _ = w.signer(x.From).Sign(msg)
	return x
}
