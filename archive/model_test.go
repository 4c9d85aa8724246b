package archive_test

import (
	"math/rand"
	"reflect"
	"slices"
	"testing"

	"assent/api"
	"assent/archive"
	"assent/disk"
	"assent/wire"
)

// model is an archive by another hand: it does on a disk of its own, with the same troubles, what the rules say.
type model struct {
	d    *disk.Disk
	head uint64
	dead bool
}

func openModel(d *disk.Disk) *model {
	m := &model{d: d}
	for slices.Contains(d.Names(), blockFile(m.head+1)) {
		m.head++
	}
	return m
}

func (m *model) write(file string, text []byte) api.Errno {
	e := m.d.Replace(file, withSum(text))
	m.dead = e != api.OK
	return e
}

func (m *model) save(b api.Block, c api.Cert) api.Errno {
	if m.dead {
		return api.ErrDead
	}
	text, e := wire.EncodeMsg(decision(b, c))
	if e != api.OK {
		return e
	}
	id, _ := wire.BlockId(b.Header)
	h := b.Header.Height
	if c.Height != h || c.Id != id {
		return api.ErrCert
	}
	if h <= m.head {
		was, _, e := m.load(h)
		there, _ := wire.BlockId(was.Header)
		if e == api.OK && there != id {
			return api.ErrClash
		}
		return e
	}
	if h != m.head+1 {
		return api.ErrGap
	}
	if e := m.write(blockFile(h), text); e != api.OK {
		return e
	}
	m.head = h
	return api.OK
}

// text is what stands in a file ahead of a digest that is right.
func (m *model) text(file string) ([]byte, api.Errno) {
	b, e := m.d.Read(file)
	if e == api.ErrOff {
		return nil, e
	}
	if n := len(b) - 32; e == api.OK && n >= 0 && slices.Equal(withSum(b[:n]), b) {
		return b[:n], api.OK
	}
	return nil, api.ErrSpoilt
}

func (m *model) load(h uint64) (api.Block, api.Cert, api.Errno) {
	if h < 1 || h > m.head {
		return api.Block{}, api.Cert{}, api.ErrNone
	}
	text, e := m.text(blockFile(h))
	if e != api.OK {
		return api.Block{}, api.Cert{}, e
	}
	msg, e := wire.DecodeMsg(text)
	id, _ := wire.BlockId(msg.Block.Header)
	if e != api.OK || msg.Kind != api.MsgDecision || msg.Block.Header.Height != h || msg.Cert.Height != h || msg.Cert.Id != id {
		return api.Block{}, api.Cert{}, api.ErrSpoilt
	}
	return msg.Block, msg.Cert, api.OK
}

func (m *model) note(st api.State) api.Errno {
	if m.dead {
		return api.ErrDead
	}
	text, e := wire.EncodeState(st)
	if e != api.OK {
		return e
	}
	if st.Height < 1 || st.Height != m.head {
		return api.ErrGap
	}
	return m.write("state", text)
}

func (m *model) noted() (api.State, api.Errno) {
	if !m.d.On() {
		return api.State{}, api.ErrOff
	}
	if !slices.Contains(m.d.Names(), "state") {
		return api.State{}, api.OK
	}
	text, e := m.text("state")
	if e != api.OK {
		return api.State{}, e
	}
	st, e := wire.DecodeState(text)
	if e != api.OK || st.Height < 1 || st.Height > m.head {
		return api.State{}, api.ErrSpoilt
	}
	return st, api.OK
}

// life is an archive and its model, side by side, with what the promises go by.
type life struct {
	t       *testing.T
	r       *rand.Rand
	size    int
	d       *disk.Disk
	a       *archive.Archive
	m       *model
	counts  map[api.Errno]int
	told    uint64                // the greatest head that was ever told
	first   map[uint64]api.Hash   // of each height the first block that was saved there with OK
	offered map[uint64][]api.Hash // and those of refused Saves
	notes   []api.State           // the last that was noted with OK (at first the zero one), and those behind it that were refused
}

func (l *life) same(what string, got, want api.Errno) api.Errno {
	l.t.Helper()
	if got != want {
		l.t.Fatalf("%s: error %d, want %d", what, got, want)
	}
	l.counts[got]++
	return got
}

// someBlock is one of a height near the head, now and then with something wrong.
func (l *life) someBlock() (api.Block, api.Cert) {
	r := l.r
	h := l.a.Head() + 1
	if r.Intn(3) == 0 {
		h = uint64(1 + r.Intn(int(l.a.Head())+3))
	}
	n := uint64(0)
	if r.Intn(4) == 0 {
		n = uint64(r.Intn(3))
	}
	b, c := block(h, n)
	b.Txs = b.Txs[:r.Intn(3)]
	c.Round = r.Intn(3)
	switch r.Intn(16) {
	case 0:
		c.Height++
	case 1:
		c.Id[r.Intn(32)]++
	case 2:
		b = spoilt(r, b)
	case 3:
		c = spoilt(r, c)
	}
	return b, c
}

func (l *life) doSave() {
	b, c := l.someBlock()
	h, head := b.Header.Height, l.a.Head()
	e := l.same("A5", l.a.Save(b, c), l.m.save(b, c))
	id, _ := wire.BlockId(b.Header)
	switch e {
	case api.OK:
		if was, there := l.first[h]; there && was != id || !there && h != head+1 {
			l.t.Fatalf("P13.3: two blocks of height %d", h)
		}
		l.first[h] = id
		l.told = max(l.told, l.a.Head())
	case api.ErrOff, api.ErrFault, api.ErrFull:
		l.offered[h] = append(l.offered[h], id)
	}
}

func (l *life) doNote() {
	st := state(l.a.Head(), uint64(l.r.Intn(1000)))
	switch l.r.Intn(8) {
	case 0:
		st.Height += uint64(l.r.Intn(3)) - 1
	case 1:
		st = spoilt(l.r, st)
	}
	switch l.same("A8", l.a.Note(st), l.m.note(st)) {
	case api.OK:
		l.notes = []api.State{st}
	case api.ErrOff, api.ErrFault, api.ErrFull:
		l.notes = append(l.notes, st)
	}
}

// look asks for all that can be asked.
func (l *life) look() {
	t := l.t
	if l.a.Head() != l.m.head {
		t.Fatalf("A4: head %d, want %d", l.a.Head(), l.m.head)
	}
	for _, h := range []uint64{0, 1, uint64(l.r.Intn(int(l.m.head) + 1)), l.m.head, l.m.head + 1} {
		b, c, e := l.a.Load(h)
		x, y, want := l.m.load(h)
		l.same("A6", e, want)
		if !reflect.DeepEqual(b, x) || !reflect.DeepEqual(c, y) {
			t.Fatalf("A6: Load of %d: %v, %v", h, b, c)
		}
		if id, _ := wire.BlockId(b.Header); e == api.OK && id != l.first[h] {
			t.Fatalf("P13.2: another block at %d", h)
		}
	}
	st, e := l.a.Noted()
	want, refusal := l.m.noted()
	l.same("A9", e, refusal)
	if !reflect.DeepEqual(st, want) {
		t.Fatalf("A9: %v, want %v", st, want)
	}
	if e == api.OK && !l.isNote(st) {
		t.Fatalf("P13.4: another state: %v", st)
	}
	if l.d.Calls() != l.m.d.Calls() || !slices.Equal(l.d.Names(), l.m.d.Names()) {
		t.Fatalf("P13.5: %d calls, want %d", l.d.Calls(), l.m.d.Calls())
	}
}

// isNote: is it the last one that was noted, or a later one that was refused?
func (l *life) isNote(st api.State) bool {
	return slices.ContainsFunc(l.notes, func(x api.State) bool { return likeState(x, st) })
}

func likeState(x, y api.State) bool {
	a, e := wire.EncodeState(x)
	b, refusal := wire.EncodeState(y)
	return e == refusal && slices.Equal(a, b)
}

func (l *life) arm() {
	tr := api.Trouble{At: 1 + l.r.Intn(6), Kind: api.TrFault}
	if l.r.Intn(2) == 0 {
		tr.Kind, tr.Done = api.TrPower, l.r.Intn(2) == 0
	}
	if e, want := l.d.Arm(tr), l.m.d.Arm(tr); e != want {
		l.t.Fatalf("Arm: error %d, want %d", e, want)
	}
}

// open begins anew, behind a crash or on the disk as it stands.
func (l *life) open(crash bool) {
	t := l.t
	t.Helper()
	if crash {
		keep, junk := []int{l.r.Intn(3), l.r.Intn(9)}, byte(l.r.Intn(256))
		im, e := l.d.Crash(keep, junk)
		other, _ := l.m.d.Crash(keep, junk)
		if e != api.OK || !reflect.DeepEqual(im, other) {
			t.Fatalf("A1: the files are others, error %d", e)
		}
		l.d, _ = disk.Mount(im, l.size)
		l.m.d, _ = disk.Mount(other, l.size)
	}
	a, e := archive.Open(l.d)
	if !l.d.On() {
		if e != api.ErrOff || a != nil {
			t.Fatalf("A3: error %d", e)
		}
		return
	}
	if e != api.OK {
		t.Fatalf("A3: error %d", e)
	}
	l.a, l.m = a, openModel(l.m.d)
	if a.Head() < l.told || a.Head() > l.told+1 {
		t.Fatalf("P13.2: head %d, told was %d", a.Head(), l.told)
	}
	if a.Head() > l.told { // a refused Save had been done
		h := a.Head()
		b, _, _ := a.Load(h)
		id, _ := wire.BlockId(b.Header)
		if !slices.Contains(l.offered[h], id) {
			t.Fatalf("P13.2: nobody saved that block of height %d", h)
		}
		l.first[h], l.told = id, h
	}
	for h := range a.Head() {
		if b, _, e := a.Load(h + 1); e != api.OK || b.Header.Height != h+1 {
			t.Fatalf("P13.2: height %d: error %d", h+1, e)
		}
	}
	if len(heights(a, 0)) != int(a.Head()) {
		t.Fatalf("A7: not all blocks are given")
	}
}

// TestLives: archives opened, used, killed and opened anew, from fixed seeds.
func TestLives(t *testing.T) {
	counts := map[api.Errno]int{}
	for seed := range int64(20) {
		r := rand.New(rand.NewSource(1300 + seed))
		size := limit
		if seed%4 == 0 {
			size = 6000 // it will be full
		}
		l := &life{t: t, r: r, size: size, counts: counts, first: map[uint64]api.Hash{}, offered: map[uint64][]api.Hash{}, notes: []api.State{{}}}
		l.d, _ = disk.New(size)
		other, _ := disk.New(size)
		l.m = openModel(other)
		l.open(false)
		for range 300 {
			switch k := r.Intn(40); {
			case k < 24:
				l.doSave()
			case k < 32:
				l.doNote()
			case k < 34:
				l.arm()
			case k < 36:
				l.open(true)
			case k < 37 || l.m.dead && k < 39:
				l.open(false)
			}
			l.look()
		}
		l.open(true)
	}
	for _, e := range []api.Errno{api.OK, api.ErrDead, api.ErrField, api.ErrCert, api.ErrGap, api.ErrClash, api.ErrNone, api.ErrOff, api.ErrFull, api.ErrFault} {
		if counts[e] < 10 {
			t.Errorf("error %d was answered just %d times", e, counts[e])
		}
	}
}

// TestEachTrouble: one life, cut by every trouble at every call.
func TestEachTrouble(t *testing.T) {
	for at := 1; at <= 8; at++ {
		for _, tr := range []api.Trouble{{Kind: api.TrFault}, {Kind: api.TrPower}, {Kind: api.TrPower, Done: true}} {
			w := newWorld(t)
			w.arm(at, tr.Kind, tr.Done)
			head, note := uint64(0), uint64(0)
			refused := api.OK
			for h := uint64(1); h <= 4 && refused == api.OK; h++ { // a Save and a Note a height
				b, c := block(h, 0)
				if refused = w.a.Save(b, c); refused == api.OK {
					head = h
					refused = w.a.Note(state(h, h))
				}
				if refused == api.OK {
					note = h
				}
			}
			if want := map[int]api.Errno{api.TrFault: api.ErrFault, api.TrPower: api.ErrOff}[tr.Kind]; refused != want {
				t.Fatalf("G7: at %d: error %d, want %d", at, refused, want)
			}
			w.at("A5, A8", head, at)
			w.save("P13.5", head+1, api.ErrDead)
			w.is("P13.5", w.a.Note(state(head, 0)), api.ErrDead)
			w.at("P13.5", head, at)
			if tr.Done && at%2 == 1 {
				head++
			} else if tr.Done {
				note++
			}
			w.again(head)
			for h := range head {
				w.loads("P13.2", h+1)
			}
			if note == 0 {
				w.noted("P13.4", api.State{}, api.OK)
			} else {
				w.noted("P13.4", state(note, note), api.OK)
			}
			w.save("P13.5: an Open anew goes on", head+1, api.OK)
		}
	}
}
