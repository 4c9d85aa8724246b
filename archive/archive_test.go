package archive_test

import (
	"crypto/sha256"
	"fmt"
	"reflect"
	"slices"
	"testing"

	"assent/api"
	"assent/archive"
	"assent/disk"
	"assent/wire"
)

const (
	name  = "c"
	limit = 1 << 20
)

// world is an archive on a disk.
type world struct {
	t *testing.T
	d *disk.Disk
	a *archive.Archive
}

// newWorld has an archive on an empty disk.
func newWorld(t *testing.T) *world {
	t.Helper()
	d, e := disk.New(limit)
	if e != api.OK {
		t.Fatalf("disk.New: error %d", e)
	}
	w := &world{t: t, d: d}
	w.open(0)
	return w
}

// grown has the blocks up to a height.
func grown(t *testing.T, height uint64) *world {
	t.Helper()
	w := newWorld(t)
	for h := range height {
		w.save("growing", h+1, api.OK)
	}
	return w
}

func (w *world) open(head uint64) {
	w.t.Helper()
	a, e := archive.Open(w.d)
	if e != api.OK || a == nil || a.Head() != head {
		w.t.Fatalf("A3: Open: error %d, head %d, want %d", e, a.Head(), head)
	}
	w.a = a
}

// again mounts what a loss of power leaves, and opens it.
func (w *world) again(head uint64) {
	w.t.Helper()
	im, e := w.d.Crash(nil, 0)
	if e != api.OK {
		w.t.Fatalf("Crash: error %d", e)
	}
	if w.d, e = disk.Mount(im, limit); e != api.OK {
		w.t.Fatalf("Mount: error %d", e)
	}
	w.open(head)
}

func (w *world) arm(at, kind int, done bool) {
	w.t.Helper()
	if e := w.d.Arm(api.Trouble{At: at, Kind: kind, Done: done}); e != api.OK {
		w.t.Fatalf("Arm: error %d", e)
	}
}

func (w *world) put(file string, b []byte) {
	w.t.Helper()
	if e := w.d.Replace(file, b); e != api.OK {
		w.t.Fatalf("Replace: error %d", e)
	}
}

func (w *world) is(what string, e, want api.Errno) {
	w.t.Helper()
	if e != want {
		w.t.Errorf("%s: error %d, want %d", what, e, want)
	}
}

// save saves the block of a height.
func (w *world) save(what string, height uint64, want api.Errno) {
	w.t.Helper()
	b, c := block(height, 0)
	w.is(what, w.a.Save(b, c), want)
}

// loads: the block of the height is there.
func (w *world) loads(what string, height uint64) {
	w.t.Helper()
	b, c := block(height, 0)
	w.loadsThat(what, b, c)
}

func (w *world) loadsThat(what string, b api.Block, c api.Cert) {
	w.t.Helper()
	x, y, e := w.a.Load(b.Header.Height)
	if e != api.OK || !reflect.DeepEqual(x, b) || !reflect.DeepEqual(y, c) {
		w.t.Errorf("%s: Load of %d: %v, %v, error %d", what, b.Header.Height, x, y, e)
	}
}

func (w *world) loadRefused(what string, height uint64, want api.Errno) {
	w.t.Helper()
	b, c, e := w.a.Load(height)
	if e != want || !reflect.DeepEqual(b, api.Block{}) || !reflect.DeepEqual(c, api.Cert{}) {
		w.t.Errorf("%s: Load of %d: %v, %v, error %d, want %d", what, height, b, c, e, want)
	}
}

func (w *world) noted(what string, st api.State, want api.Errno) {
	w.t.Helper()
	got, e := w.a.Noted()
	if e != want || !reflect.DeepEqual(got, st) {
		w.t.Errorf("%s: Noted: %v, error %d, want %v, error %d", what, got, e, st, want)
	}
}

// at: where the archive and its disk stand.
func (w *world) at(what string, head uint64, calls int) {
	w.t.Helper()
	if w.a.Head() != head || w.d.Calls() != calls {
		w.t.Errorf("%s: head %d, %d calls, want %d, %d", what, w.a.Head(), w.d.Calls(), head, calls)
	}
}

// heights are those that From gives.
func heights(a *archive.Archive, from uint64) (all []uint64) {
	for b := range a.From(from) {
		all = append(all, b.Header.Height)
	}
	return all
}

// block is a plain block of a height, with something in each of its lists, and a certificate of it; unlike n give unlike blocks.
func block(height, n uint64) (api.Block, api.Cert) {
	b := api.Block{
		Header: api.Header{Chain: name, Height: height, Time: 100 + height, Proposer: 2, State: api.Hash{byte(n), 9}},
		Txs:    []api.Tx{{Kind: api.TxBond, From: 1, Amount: 5}, {Kind: api.TxPay, From: 1, To: 3, Amount: height, Nonce: 1}},
		Evidence: []api.Evidence{{
			A: api.Vote{Kind: api.Prevote, Height: 7, From: 4},
			B: api.Vote{Kind: api.Prevote, Height: 7, From: 4, Id: api.Hash{1}, Seal: api.Seal{2}},
		}},
	}
	if height > 1 {
		b.Last = api.Cert{Height: height - 1, Round: 1, Id: api.Hash{byte(height), 1}, Marks: []api.Mark{{Index: 2, Time: 100 + height}}}
	}
	return b, certOf(b, 0)
}

func certOf(b api.Block, round int) api.Cert {
	id, e := wire.BlockId(b.Header)
	if e != api.OK {
		panic(e)
	}
	return api.Cert{Height: b.Header.Height, Round: round, Id: id, Marks: []api.Mark{{Index: 1, Time: 4}, {Index: 3, Time: 9, Seal: api.Seal{5}}}}
}

// state has something in each of its lists; unlike n give unlike states.
func state(height, n uint64) api.State {
	c := api.Council{Members: []api.Member{{Addr: 1, Power: 10, Priority: -3}, {Addr: 4, Power: 2, Priority: 3}}}
	return api.State{
		Chain: name, Params: api.Params{Seats: 4, Age: 2, Period: 9, MaxTxs: 10}, Height: height, Time: 100 + height, Last: api.Hash{byte(n), 1},
		Council: c, Next: api.Council{Members: c.Members[:1:1]},
		Past:     []api.Past{{Height: 3, Time: 8, Council: c}, {Height: 4, Time: 9, Council: c}},
		Punished: []api.Offence{{Height: 3, Addr: 4}},
		Ledger:   api.Ledger{Accounts: []api.Account{{Addr: 1, Balance: n, Bond: 10}}, Releases: []api.Release{{Height: 20, Addr: 1, Born: 2, Amount: 3}}, Supply: n + 13},
	}
}

// blockFile and withSum say by another hand what the names and the bytes of files are.
func blockFile(height uint64) string { return fmt.Sprintf("block-%016x", height) }

func withSum(text []byte) []byte {
	sum := sha256.Sum256(text)
	return append(slices.Clone(text), sum[:]...)
}

func form(t *testing.T, m api.Msg) []byte {
	t.Helper()
	text, e := wire.EncodeMsg(m)
	if e != api.OK {
		t.Fatalf("EncodeMsg: error %d", e)
	}
	return text
}

func decision(b api.Block, c api.Cert) api.Msg {
	return api.Msg{Kind: api.MsgDecision, Block: b, Cert: c}
}

// TestExamples are the chapter's, one behind the other.
func TestExamples(t *testing.T) {
	w := newWorld(t)
	b1, c1 := block(1, 0)
	b2, c2 := block(2, 0)
	w.loadRefused("example 1", 1, api.ErrNone)
	w.noted("example 1", api.State{}, api.OK)
	w.is("example 1", w.a.Save(b2, c2), api.ErrGap)
	w.is("example 1", w.a.Save(b1, c2), api.ErrCert)
	w.at("example 1", 0, 0)

	w.is("example 2", w.a.Save(b1, c1), api.OK)
	w.at("example 2", 1, 1)
	if got := w.d.Names(); !slices.Equal(got, []string{"block-0000000000000001"}) {
		t.Errorf("example 2: %v", got)
	}
	w.is("example 2", w.a.Save(b1, certOf(b1, 3)), api.OK)
	w.at("example 2", 1, 1)
	w.loadsThat("example 2", b1, c1)
	other, cert := block(1, 1)
	w.is("example 2", w.a.Save(other, cert), api.ErrClash)

	w.arm(1, api.TrFault, false)
	w.is("example 3", w.a.Save(b2, c2), api.ErrFault)
	w.at("example 3", 1, 2)
	w.is("example 3", w.a.Save(b2, c2), api.ErrDead)
	w.loadsThat("example 3", b1, c1)
	w.open(1)
	w.is("example 3", w.a.Save(b2, c2), api.OK)

	w = grown(t, 1)
	w.arm(1, api.TrPower, true)
	w.is("example 4", w.a.Save(b2, c2), api.ErrOff)
	w.at("example 4", 1, 2)
	w.loadRefused("example 4", 1, api.ErrOff)
	w.again(2)
	w.loadsThat("example 4", b2, c2)

	w.is("example 5", w.a.Note(state(1, 0)), api.ErrGap)
	w.is("example 5", w.a.Note(state(2, 0)), api.OK)
	w.noted("example 5", state(2, 0), api.OK)

	w = newWorld(t)
	w.put("block-0000000000000002", nil)
	if a, e := archive.Open(w.d); e != api.ErrGap || a != nil {
		t.Errorf("example 6: error %d", e)
	}
	w = newWorld(t)
	w.put("block-1", nil)
	w.open(0)
}
