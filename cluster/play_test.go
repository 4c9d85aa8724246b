package cluster_test

import (
	"cmp"
	"math/rand"
	"reflect"
	"slices"
	"strconv"
	"testing"

	"assent/api"
	"assent/chain"
	"assent/council"
	"assent/ledger"
	"assent/wire"
)

// teller is a node and a height of which it has told a block.
type teller struct {
	node   int
	height uint64
}

// play is a cluster, beside its model, in which much comes to pass by lot.
type play struct {
	*pair
	r      *rand.Rand
	wild   bool        // liars sign votes of rounds far ahead: then W5 promises nothing
	blocks []api.Block // that were seen
	told   map[teller]api.Hash
	round  int // the greatest that a node has come to
}

func newPlay(t *testing.T, seed int64) *play {
	t.Helper()
	r := rand.New(rand.NewSource(seed))
	members := 4 + r.Intn(4)
	var bonds []uint64
	for range members {
		bonds = append(bonds, uint64(10+r.Intn(4)))
	}
	g := genesis(append(bonds, 0, 0)...)
	for k := range g.Accounts {
		g.Accounts[k].Balance = 300
	}
	q := &g.Params
	q.Seats, q.Slash, q.MinBond = 4+r.Intn(8), uint64(r.Intn(1001)), uint64(1+r.Intn(6))
	q.Age = uint64(1 + r.Intn(5))
	q.Period = q.Age + 3 + uint64(r.Intn(4))
	q.Propose, q.Votes, q.Pause, q.Resend = uint64(1+r.Intn(6)), uint64(1+r.Intn(4)), uint64(r.Intn(4)), uint64(1+r.Intn(8))
	liars := r.Intn((members-1)/3 + 1)
	if seed%8 == 0 {
		liars = 0
	}
	x := &play{r: r, wild: seed%5 == 0, told: map[teller]api.Hash{}}
	x.pair = newPair(t, g, upTo(members), liars)
	return x
}

// stir has something come to pass.
func (x *play) stir(troubles bool) {
	x.t.Helper()
	k := x.r.Intn(x.honest())
	switch n := x.r.Intn(40); {
	case n < 26 && x.c.Pending() > 0:
		at := 0
		if x.r.Intn(3) == 0 {
			at = x.r.Intn(x.c.Pending())
		}
		if x.r.Intn(15) == 0 {
			x.drop(at)
		} else {
			x.deliver(at, x.r.Intn(12) == 0)
		}
	case n < 33:
		x.tick(k, uint64(x.r.Intn(4)))
	case n < 34:
		x.submit(k, x.someTx(k))
	case n < 38 && x.liars > 0:
		x.someLie(k)
	case n == 38 && troubles:
		t := api.Trouble{At: 1 + x.r.Intn(9), Kind: api.TrFault}
		if x.r.Intn(2) == 0 {
			t.Kind, t.Done = api.TrPower, x.r.Intn(2) == 0
		}
		x.arm(k, t)
	case n == 39 && troubles && (x.c.Dead(k) || x.r.Intn(4) == 0):
		x.crash(k)
	}
	for x.c.Pending() > 900 {
		x.drop(x.r.Intn(x.c.Pending()))
	}
}

func (x *play) crash(k int) {
	x.t.Helper()
	var keep []int
	for range x.r.Intn(60) {
		keep = append(keep, x.r.Intn(150)-40)
	}
	x.is("C5", x.restart(k, keep, byte(x.r.Intn(3)*x.r.Intn(256))), api.OK)
}

// someTx is a transaction, mostly one that can be made. Who is no honest node bonds little.
func (x *play) someTx(k int) api.Tx {
	accounts := x.state(k).Ledger.Accounts
	if len(accounts) == 0 {
		return api.Tx{}
	}
	from := accounts[x.r.Intn(len(x.g.Accounts))]
	y := api.Tx{Kind: 1 + x.r.Intn(4), From: from.Addr, Amount: uint64(x.r.Intn(5)), Fee: uint64(x.r.Intn(4)), Nonce: from.Nonce + uint64(x.r.Intn(3))}
	switch y.Kind {
	case api.TxPay:
		y.To = api.Addr(1 + x.r.Intn(12))
	case api.TxBond:
		if int(y.From) > x.honest() {
			y.Amount %= 2
		}
	case api.TxFree:
		y.Amount = 0
	}
	return y
}

// someLie has a liar send something to a node, or to all.
func (x *play) someLie(k int) {
	x.t.Helper()
	liar, to := x.honest()+x.r.Intn(x.liars), k
	if x.r.Intn(3) == 0 {
		to = -1
	}
	x.seeBlocks()
	m := x.lieOf(liar, k)
	if m.Kind == 0 {
		return
	}
	x.lie(liar, to, m)
}

// seeBlocks notes blocks that are under way.
func (x *play) seeBlocks() {
	for range min(12, x.c.Pending()) {
		_, _, b, _ := x.c.Peek(x.r.Intn(x.c.Pending()))
		if m, _ := wire.DecodeMsg(b); m.Block.Header.Height > 0 {
			x.seeBlock(m.Block)
		}
	}
}

func (x *play) seeBlock(b api.Block) {
	if !slices.ContainsFunc(x.blocks, func(o api.Block) bool { return idOf(o) == idOf(b) }) {
		x.blocks = append(x.blocks, b)
	}
	if len(x.blocks) > 60 {
		x.blocks = x.blocks[20:]
	}
}

// aBlock is one of a height that was seen.
func (x *play) aBlock(height uint64) (api.Block, bool) {
	var some []api.Block
	for _, b := range x.blocks {
		if b.Header.Height == height {
			some = append(some, b)
		}
	}
	if len(some) == 0 {
		return api.Block{}, false
	}
	return some[x.r.Intn(len(some))], true
}

// lieRound is a round near that of a node; in a play that is not wild one of those that W5 allows.
func (x *play) lieRound(k int) int {
	v := x.view(k)
	round := max(0, v.Round+x.r.Intn(5)-2)
	if x.wild && x.r.Intn(8) == 0 {
		return round + x.r.Intn(40)
	}
	most := api.Window
	for j := range x.honest() {
		if o := x.view(j); o.Height == v.Height {
			most = max(most, o.Round)
		}
	}
	return min(round, most)
}

func (x *play) lieOf(liar, k int) api.Msg {
	a, view, st := x.addrs[liar], x.view(k), x.state(k)
	if view.Height == 0 {
		return status(1)
	}
	switch x.r.Intn(16) {
	case 0, 1, 2:
		return x.liedProposal(a, k)
	case 3:
		if b, ok := x.aBlock(view.Height); ok {
			if votes := x.polka(k, idOf(b), -1); len(votes) > 0 {
				return api.Msg{Kind: api.MsgPolka, Block: b, Votes: votes}
			}
		}
	case 4:
		j := x.r.Intn(x.honest())
		b, c, e := x.c.Block(j, st.Height+1)
		if e != api.OK {
			return status(1 + uint64(x.r.Intn(int(st.Height)+2)))
		}
		if x.r.Intn(2) == 0 {
			b.Header.Time++
			c.Id = idOf(b)
		}
		return api.Msg{Kind: api.MsgDecision, Block: b, Cert: c}
	case 5:
		if x.r.Intn(3) == 0 {
			return proof(max(1, st.Height), a)
		}
		return proof(max(1, st.Height), x.addrs[x.r.Intn(x.honest())]) // without a seal
	case 6:
		return api.Msg{Kind: api.MsgTx, Tx: api.Tx{Kind: api.TxPay, From: a, To: 77, Amount: 1, Nonce: uint64(x.r.Intn(3))}}
	}
	ids := []api.Hash{none, none, view.ValidId, view.LockId, {byte(x.r.Intn(3))}}
	if b, ok := x.aBlock(view.Height); ok {
		ids = append(ids, idOf(b), idOf(b), idOf(b))
	}
	v := api.Vote{Kind: 1 + x.r.Intn(2), Height: view.Height, Round: x.lieRound(k), Id: ids[x.r.Intn(len(ids))], From: a}
	if v.Kind == api.Precommit && v.Id != none {
		v.Time = uint64(x.r.Intn(3000))
	}
	if x.wild && x.r.Intn(9) == 0 {
		v.Height++
	}
	return voted(v)
}

// polka are the prevotes that a node has heard for an id, by rising member, of a round below another (-1: of any), if they are a quorum.
func (x *play) polka(k int, id api.Hash, below int) []api.Vote {
	st := x.state(k)
	rounds := map[int][]api.Vote{}
	for _, v := range x.heard(k, st.Height+1) {
		alike := func(o api.Vote) bool { return o.From == v.From }
		if v.Kind == api.Prevote && v.Id == id && (below < 0 || v.Round < below) && !slices.ContainsFunc(rounds[v.Round], alike) {
			rounds[v.Round] = append(rounds[v.Round], v)
		}
	}
	for round := range 40 {
		power := uint64(0)
		for _, v := range rounds[round] {
			power += powerOf(st.Council, v.From)
		}
		if power > 0 && power >= council.Quorum(st.Council) {
			slices.SortFunc(rounds[round], func(v, w api.Vote) int { return cmp.Compare(v.From, w.From) })
			return rounds[round]
		}
	}
	return nil
}

func powerOf(c api.Council, a api.Addr) uint64 {
	if k := council.Index(c, a); k >= 0 {
		return c.Members[k].Power
	}
	return 0
}

// liedProposal is one of a liar whose turn it is, of a block that is good or not.
func (x *play) liedProposal(a api.Addr, k int) api.Msg {
	st, round := x.state(k), x.lieRound(k)
	for n := 0; n < 4; n++ { // a round in which it is its turn
		if who, _ := council.Proposer(st.Council, round); who == a {
			break
		}
		round++
	}
	if b, ok := x.aBlock(st.Height + 1); ok && x.r.Intn(2) == 0 {
		if votes := x.polka(k, idOf(b), round); len(votes) > 0 {
			return api.Msg{Kind: api.MsgProposal, Proposal: api.Proposal{Height: st.Height + 1, Round: round, ValidRound: votes[0].Round, Id: idOf(b), From: a}, Block: b, Votes: votes}
		}
	}
	_, last, _ := x.c.Block(k, st.Height)
	txs, _ := x.c.Pool(k)
	b, e := chain.Make(st, x.c.Registry(), txs[:x.r.Intn(len(txs)+1)], nil, last, a)
	if e != api.OK {
		return api.Msg{}
	}
	if x.r.Intn(3) == 0 {
		b.Header.Time++
	}
	x.seeBlock(b)
	return api.Msg{Kind: api.MsgProposal, Proposal: api.Proposal{Height: st.Height + 1, Round: round, ValidRound: -1, Id: idOf(b), From: a}, Block: b}
}

// revive opens all nodes anew that are dead or may have a trouble ahead.
func (x *play) revive() {
	x.t.Helper()
	for k := range x.honest() {
		x.crash(k)
	}
}

// calm lets rounds of good behaviour come, in which whoever dies is opened anew.
func (x *play) calm(rounds int) {
	x.t.Helper()
	for range rounds {
		for k := range x.honest() {
			if x.c.Dead(k) {
				x.crash(k)
			}
		}
		x.rounds(1)
	}
}

// areFew: have those of a council that are no honest nodes less than a third of its power?
func (x *play) areFew(c api.Council) bool {
	power := uint64(0)
	for _, m := range c.Members {
		if !slices.Contains(x.addrs[:x.honest()], m.Addr) {
			power += m.Power
		}
	}
	return 3*power < council.Total(c)
}

// agree is W1 to W4, as the nodes stand.
func (x *play) agree() (few bool) {
	x.t.Helper()
	few = true
	first := map[uint64]api.Hash{}
	for k := range x.honest() {
		if st := x.state(k); x.c.Dead(k) {
			continue // its disk may be without power
		} else if got := x.played(k); !reflect.DeepEqual(got, st) && !sameState(got, st) {
			x.t.Fatalf("W3: node %d is in another state than its blocks bring about", k)
		}
		fewHere := x.wantChain(k, first)
		few = few && fewHere
	}
	for at, id := range x.told {
		if x.c.Dead(at.node) {
			continue
		}
		if b, _ := x.block(at.node, at.height); idOf(b) != id {
			x.t.Fatalf("W3: node %d tells another block of %d than it did", at.node, at.height)
		}
	}
	for k := range x.honest() {
		wantHonest(x.t, x.c.Signed(x.addrs[k]))
	}
	return few
}

// wantChain is W1 and W2 of one node's chain; it tells whether the liars are few in all its councils.
func (x *play) wantChain(k int, first map[uint64]api.Hash) bool {
	x.t.Helper()
	st, _ := chain.Begin(x.g)
	few, seen := x.areFew(st.Council), map[[2]uint64]int{}
	for h := uint64(1); h <= x.state(k).Height; h++ {
		b, _ := x.block(k, h)
		if was, there := first[h]; few && there && was != idOf(b) {
			x.t.Fatalf("W1: two blocks are told of %d", h)
		}
		first[h], x.told[teller{k, h}] = idOf(b), idOf(b)
		for _, y := range b.Txs {
			if seen[[2]uint64{uint64(y.From), y.Nonce}]++; seen[[2]uint64{uint64(y.From), y.Nonce}] > 1 {
				x.t.Fatalf("W2: a transaction of %d stands twice", y.From)
			}
		}
		if h > 1 {
			x.wantTime(b, st, few)
		}
		st, _ = chain.Apply(st, x.c.Registry(), b)
		if ledger.Sound(st.Ledger) != api.OK || st.Ledger.Supply != ledgerOf(x.g).Supply {
			x.t.Fatalf("W2: something is made or lost at %d", h)
		}
		for _, y := range st.Ledger.Accounts {
			if y.Jailed && slices.Contains(x.addrs[:x.honest()], y.Addr) {
				x.t.Fatalf("W4: the honest %d is in jail", y.Addr)
			}
		}
		few = few && x.areFew(st.Council)
	}
	return few
}

func ledgerOf(g api.Genesis) api.Ledger {
	st, _ := chain.Begin(g)
	return st.Ledger
}

// wantTime is W2's last part: a block's time is above the one ahead, and one that honest members bear out.
func (x *play) wantTime(b api.Block, st api.State, few bool) {
	x.t.Helper()
	least, most := uint64(api.MaxTime), uint64(0)
	for _, a := range x.addrs[:x.honest()] {
		for _, msg := range x.c.Signed(a) {
			if _, v, e := wire.ReadVoteBytes(msg); e == api.OK && v.Kind == api.Precommit && v.Height == st.Height && v.Id != none {
				least, most = min(least, v.Time), max(most, v.Time)
			}
		}
	}
	if now := b.Header.Time; now <= st.Time || few && (now < least || now > most) {
		x.t.Fatalf("W2: the time %d behind %d, honest ones gave %d to %d", now, st.Time, least, most)
	}
}

// sameState: lists that are empty and lists that are nil mean the same.
func sameState(one, two api.State) bool {
	a, _ := wire.EncodeState(one)
	b, _ := wire.EncodeState(two)
	return slices.Equal(a, b)
}

// wantHonest is W4 of what a signer has signed: the book has each message once, so two of one place would be unlike.
func wantHonest(t *testing.T, signed [][]byte) {
	t.Helper()
	type place struct {
		kind   int
		height uint64
		round  int
	}
	seen := map[place]int{}
	for _, msg := range signed {
		var at place
		if _, v, e := wire.ReadVoteBytes(msg); e == api.OK {
			at = place{v.Kind, v.Height, v.Round}
		} else if _, p, e := wire.ReadProposalBytes(msg); e == api.OK {
			at = place{0, p.Height, p.Round}
		} else {
			continue // a transaction
		}
		if seen[at]++; seen[at] > 1 {
			t.Fatalf("W4: two messages of %+v are signed", at)
		}
	}
}

// bound is the number of rounds that the chapter reckons for W5, and the greatest height that there is.
func (x *play) bound() (uint64, uint64) {
	x.t.Helper()
	least, most, round := uint64(api.MaxHeight), uint64(0), 0
	var members int
	for k := range x.honest() {
		st := x.state(k)
		if st.Height >= most {
			members = len(st.Council.Members)
		}
		least, most, round = min(least, st.Height), max(most, st.Height), max(round, x.view(k).Round)
	}
	q := x.g.Params
	last := max(uint64(round), 16+4*q.Resend) + 22*uint64(members) + 4
	sum := (last + 1) * (last + 2) / 2 * (q.Propose + 3*q.Votes)
	return (most-least)*(q.Resend+6) + q.Pause + 8*q.Resend + 64 + sum + 8, most
}

// goOn is W5: behind so many rounds of good behaviour each node has decided a height more than any had.
func (x *play) goOn() {
	x.t.Helper()
	x.revive()
	limit, most := x.bound()
	for n := 0; uint64(n) <= limit; n++ {
		behind := false
		for k := range x.honest() {
			behind = behind || x.view(k).Height <= most+1
		}
		if !behind {
			return
		}
		for range x.r.Intn(4) { // liars go on lying
			if x.liars > 0 {
				x.someLie(x.r.Intn(x.honest()))
			}
		}
		x.rounds(1)
	}
	x.t.Fatalf("W5: not all go on from %d in %d rounds", most, limit)
}

// run has much come to pass, in turns with calm times; and then, if the premises are kept, a height more be decided, which it tells.
func (x *play) run(troubles bool) bool {
	x.t.Helper()
	few := true
	for range 5 {
		for range 250 {
			x.stir(troubles)
			x.round = max(x.round, x.view(0).Round)
		}
		x.lookAll(x.r)
		few = x.agree() && few
		x.calm(8 + x.r.Intn(12))
	}
	x.revive()
	if few = x.agree() && few; few && !x.wild {
		x.goOn()
		x.agree()
	}
	x.lookAll(x.r)
	return few && !x.wild
}

// TestPlays: clusters in which messages are lost, doubled, late and turned round, in which liars lie and disks fail at whatever call, are held against models; and what is promised of the whole holds all the time.
func TestPlays(t *testing.T) {
	const plays = 48
	all, gone := make([]*play, plays), make([]bool, plays)
	t.Run("seeds", func(t *testing.T) {
		for seed := range all {
			t.Run(strconv.Itoa(seed), func(t *testing.T) {
				t.Parallel()
				all[seed] = newPlay(t, int64(seed))
				gone[seed] = all[seed].run(seed%3 > 0)
			})
		}
	})
	counts, heights, rounds, goneOn := map[api.Errno]int{}, uint64(0), 0, 0
	for seed, x := range all {
		if t.Failed() {
			return
		}
		for e, n := range x.counts {
			counts[e] += n
		}
		for k := range x.honest() {
			heights, rounds = max(heights, x.state(k).Height), max(rounds, x.round)
		}
		if gone[seed] {
			goneOn++
		}
	}
	if heights < 20 || rounds < 4 || goneOn < plays/2 {
		t.Errorf("they come to height %d and round %d, and go on %d times", heights, rounds, goneOn)
	}
	for _, e := range []api.Errno{api.OK, api.ErrOff, api.ErrDead, api.ErrFar, api.ErrNone} {
		if counts[e] == 0 {
			t.Errorf("error %d was never answered: %v", e, counts)
		}
	}
}
