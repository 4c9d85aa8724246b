package node

import (
	"container/heap"
	"maps"
	"slices"
	"strconv"
	"strings"

	"assent/api"
	"assent/chain"
	"assent/digest"
	"assent/engine"
	"assent/wal"
	"assent/wire"
)

const (
	logMark    = "wal-" // a log's name begins so
	digitCount = 16     // and so many digits follow
	noteEvery  = 8      // at so many heights the state is noted, so that an opening has few blocks to play
)

// stage is what belongs to the height that is being decided, and goes with it.
type stage struct {
	engine *engine.Engine // nil: the chain goes no further
	log    *wal.Log
	start  uint64 // when the height begins
	waits  waits
	set    int                       // so many waits have been set
	fresh  map[api.Addr]api.Evidence // of each member what came first
	come   map[api.Hash]struct{}     // the inputs that were handed in, by their digests
}

// enter comes to the height behind the state, at a time, and tells the records that its log has.
func (n *Node) enter(now uint64) [][]byte {
	n.stage = &stage{
		start: later(now, n.state.Params.Pause),
		fresh: map[api.Addr]api.Evidence{},
		come:  map[api.Hash]struct{}{},
	}
	if n.state.Height >= api.MaxHeight {
		return nil
	}
	var e api.Errno
	if n.engine, e = engine.New(n.height(), n.state.Council, n.state.Params, n.signer.Addr()); e != api.OK {
		panic(refused{api.ErrSpoilt}) // the state is one that the disk has kept, and no chain comes to it
	}
	var records [][]byte
	n.log, records, e = wal.Open(n.disk, logName(n.height()))
	must(e)
	return records
}

// decide is the way from a height to the next. The block is kept ahead of all that tells of it; but nothing is kept that is not valid.
func (n *Node) decide(b api.Block, c api.Cert, now uint64) {
	next := n.behind(b)
	must(n.archive.Save(b, c))
	n.stepOn(next)
	if n.state.Height%noteEvery == 0 {
		must(n.archive.Note(n.state))
	}
	n.misdeeds.Settle(n.state, b.Evidence)
	n.reportFresh()
	n.pool.Recheck(n.state)
	n.enter(now)
}

// behind is the state behind a block. Each block was looked over ahead of this, unless it comes from the disk.
func (n *Node) behind(b api.Block) api.State {
	next, e := chain.Apply(n.state, n.registry, b)
	if e != api.OK {
		panic(refused{api.ErrSpoilt})
	}
	return next
}

// stepOn sets the state a height on.
func (n *Node) stepOn(next api.State) {
	n.trail.councils = append(n.trail.councils, n.state.Council)
	n.state = next
}

// reportFresh has evidence of the height that was decided wait for a block, here and elsewhere.
func (n *Node) reportFresh() {
	for _, a := range slices.Sorted(maps.Keys(n.fresh)) {
		if n.misdeeds.Add(n.state, n.registry, n.fresh[a]) == api.OK {
			n.broadcast(api.Msg{Kind: api.MsgEvidence, Evidence: n.fresh[a]})
		}
	}
}

// height is the one that is being decided.
func (n *Node) height() uint64 { return n.state.Height + 1 }

// isDue: is that the height at which an engine is at work?
func (n *Node) isDue(height uint64) bool { return n.engine != nil && height == n.height() }

func (s *stage) addWait(step, round int, time uint64) {
	heap.Push(&s.waits, wait{time: time, number: s.set, step: step, round: round})
	s.set++
}

func (s *stage) noteCome(in api.Input) { s.come[digestOf(in)] = struct{}{} }

func (s *stage) hasCome(in api.Input) bool {
	_, found := s.come[digestOf(in)]
	return found
}

// digestOf binds what an input brings; not when it came, nor what the node has found of its block.
func digestOf(in api.Input) api.Hash {
	in.Now, in.Good = 0, false
	form, _ := wire.EncodeInput(in) // it is plain: what has come was read from its form, or made here
	return digest.Sum(form)
}

func logName(height uint64) string {
	digits := strconv.FormatUint(height, 16)
	return logMark + strings.Repeat("0", digitCount-len(digits)) + digits
}

// later is so many ticks on; clocks end at MaxTime.
func later(time, ticks uint64) uint64 { return min(time+ticks, api.MaxTime) }
