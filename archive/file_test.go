package archive_test

import (
	"bytes"
	"math"
	"math/rand"
	"slices"
	"testing"

	"assent/api"
	"assent/archive"
	"assent/disk"
	"assent/wire"
)

// TestFiles: names and bytes are as A1 says, and nothing else is written.
func TestFiles(t *testing.T) {
	w := newWorld(t)
	var want []string
	for h := uint64(1); h <= 300; h++ { // past 255, so that the digits' places are seen
		w.save("A5", h, api.OK)
		want = append(want, blockFile(h))
	}
	w.at("A5", 300, 300)
	if got := w.d.Names(); !slices.Equal(got, want) {
		t.Fatalf("A1: %v", got)
	}
	if !slices.Contains(want, "block-00000000000000ff") || !slices.Contains(want, "block-000000000000012c") {
		t.Fatalf("A1: the names by another hand are others")
	}
	for h := uint64(1); h <= 300; h++ {
		b, c := block(h, 0)
		got, e := w.d.Read(blockFile(h))
		if e != api.OK || !bytes.Equal(got, withSum(form(t, decision(b, c)))) {
			t.Fatalf("A1: the file of %d: %x, error %d", h, got, e)
		}
		if size, synced, _ := w.d.Size(blockFile(h)); size != synced {
			t.Fatalf("A5: the file of %d is not durable", h)
		}
	}
	w.is("A8", w.a.Note(state(300, 0)), api.OK)
	w.at("A8", 300, 301)
	text, _ := wire.EncodeState(state(300, 0))
	if got, e := w.d.Read("state"); e != api.OK || !bytes.Equal(got, withSum(text)) {
		t.Errorf("A1: the state's file: %x, error %d", got, e)
	}
	if got := w.d.Names(); !slices.Equal(got, append(want, "state")) {
		t.Errorf("A1: %v", got)
	}
}

// TestOpenByNames: which files are there tells the head; what is in them is not looked at, and other files are not.
func TestOpenByNames(t *testing.T) {
	others := []string{
		"block", "block-", "block-1", "block-000000000000002", "block-00000000000000002", "block-000000000000000g", "block-000000000000000z",
		"block-0000000000000009.", "block-000000000000-009", "block-.000000000000009", "block--000000000000009", "block-0x00000000000009",
		"bloc-0000000000000009", "xblock-0000000000000009", "lock-0000000000000009", "0000000000000009", "state", "state-", "wal-0000000000000009", "a", "zz",
	}
	for _, c := range []struct {
		heights []uint64
		head    uint64
		want    api.Errno
	}{
		{nil, 0, api.OK},
		{[]uint64{1}, 1, api.OK},
		{[]uint64{1, 2, 3}, 3, api.OK},
		{[]uint64{2}, 0, api.ErrGap},
		{[]uint64{0}, 0, api.ErrGap},
		{[]uint64{0, 1}, 0, api.ErrGap},
		{[]uint64{1, 3}, 0, api.ErrGap},
		{[]uint64{1, 2, 16}, 0, api.ErrGap},
		{[]uint64{1, 2, 4, 5}, 0, api.ErrGap},
		{[]uint64{1, math.MaxUint64}, 0, api.ErrGap},
		{[]uint64{0, 1, math.MaxUint64}, 0, api.ErrGap},
		{[]uint64{math.MaxUint64}, 0, api.ErrGap},
		{[]uint64{1, api.MaxHeight + 1}, 0, api.ErrGap},
		{[]uint64{1, 2, 3, 4, 5, 6, 7, 8, 9, 10, 11, 12, 13, 14, 15, 16, 17}, 17, api.OK},
	} {
		for _, beside := range [][]string{nil, others} {
			d, _ := disk.New(limit)
			for _, f := range beside {
				if e := d.Append(f, []byte("whatever")); e != api.OK {
					t.Fatalf("Append of %s: error %d", f, e)
				}
			}
			for _, h := range c.heights {
				d.Append(blockFile(h), nil)
			}
			was, names := d.Calls(), d.Names()
			a, e := archive.Open(d)
			if e != c.want || a.Head() != c.head || (a == nil) != (c.want != api.OK) {
				t.Errorf("A3: of %v and %v: head %d, error %d, want %d, error %d", c.heights, beside, a.Head(), e, c.head, c.want)
			}
			if d.Calls() != was || !slices.Equal(d.Names(), names) {
				t.Errorf("A3: Open has written")
			}
		}
	}
}

// TestOpenRefused: no disk, and a disk that is off, ahead of a gap.
func TestOpenRefused(t *testing.T) {
	w := grown(t, 2)
	w.put(blockFile(9), nil)
	for what, d := range map[string]*disk.Disk{"nil": nil, "zero": {}, "a copy": copyOf(w.d)} {
		if a, e := archive.Open(d); a != nil || e != api.ErrNil {
			t.Errorf("G1: a disk that is %s: error %d", what, e)
		}
	}
	w.d.Crash(nil, 0)
	if a, e := archive.Open(w.d); a != nil || e != api.ErrOff {
		t.Errorf("A3: off: error %d", e)
	}
	off := copyOf(w.d)
	if a, e := archive.Open(off); a != nil || e != api.ErrNil {
		t.Errorf("G1: a copy of a disk that is off: error %d", e)
	}
}

// wrongFiles are bytes that are no file of the block of height 2, by what is wrong with them.
func wrongFiles(t *testing.T) map[string][]byte {
	b, c := block(2, 0)
	good := form(t, decision(b, c))
	low, lowCert := block(1, 0)
	later := c
	later.Height = 3
	other := c
	other.Id[31] ^= 1
	both := lowCert
	both.Height = 2
	all := map[string][]byte{
		"no byte":                          nil,
		"31 bytes":                         make([]byte, 31),
		"32 bytes":                         make([]byte, 32),
		"no text":                          withSum(nil),
		"the text alone":                   good,
		"a byte behind":                    append(withSum(good), 0),
		"a byte ahead":                     append([]byte{0}, withSum(good)...),
		"a byte less":                      withSum(good)[:len(good)+31],
		"the sum of another text":          append(slices.Clone(good), withSum(good[1:])[len(good)-1:]...),
		"a text that is cut":               withSum(good[:len(good)-1]),
		"a text with something behind":     withSum(append(slices.Clone(good), 0)),
		"no kind":                          withSum([]byte{9}),
		"a status":                         withSum(form(t, api.Msg{Kind: api.MsgStatus, Height: 2})),
		"another block's":                  withSum(form(t, decision(low, lowCert))),
		"a certificate of height 3":        withSum(form(t, decision(b, later))),
		"a certificate of another id":      withSum(form(t, decision(b, other))),
		"another's certificate":            withSum(form(t, decision(b, lowCert))),
		"another's certificate, as of 2":   withSum(form(t, decision(b, both))),
		"a state":                          withSum(must(wire.EncodeState(state(2, 0)))),
		"more than a message's bytes":      withSum(make([]byte, api.MaxMsg+1)),
		"a proposal of the block":          withSum(form(t, api.Msg{Kind: api.MsgProposal, Block: b, Proposal: api.Proposal{Height: 2, ValidRound: -1, Id: c.Id, From: 2}})),
		"the block's polka":                withSum(form(t, api.Msg{Kind: api.MsgPolka, Block: b, Votes: []api.Vote{{Kind: api.Prevote, Height: 2, Id: c.Id, From: 1}}})),
		"the block's form without the Msg": withSum(must(wire.EncodeBlock(b))),
	}
	return all
}

func must(b []byte, e api.Errno) []byte {
	if e != api.OK {
		panic(e)
	}
	return b
}

// TestWrongFiles: what is no file of the block is spoilt, for Load, From and Save; it harms nothing else.
func TestWrongFiles(t *testing.T) {
	look := func(what string, w *world) {
		t.Helper()
		w.loadRefused("A2: "+what, 2, api.ErrSpoilt)
		w.loads("P13.6: "+what, 1)
		w.loads("P13.6: "+what, 3)
		if got := heights(w.a, 0); !slices.Equal(got, []uint64{1}) {
			t.Errorf("A7: %s: %v", what, got)
		}
		if got := heights(w.a, 2); got != nil {
			t.Errorf("A7: %s: %v", what, got)
		}
		calls := w.d.Calls()
		w.save("A5: "+what, 2, api.ErrSpoilt)
		b, c := block(2, 7)
		w.is("A5: another block: "+what, w.a.Save(b, c), api.ErrSpoilt)
		w.at("A5: "+what, 3, calls)
		w.save("A5: it stays alive: "+what, 4, api.OK)
		w.at("A5: "+what, 4, calls+1)
	}
	for what, bytes := range wrongFiles(t) {
		w := grown(t, 3)
		w.put(blockFile(2), bytes)
		look(what, w)
	}
	w := grown(t, 3)
	w.d.Remove(blockFile(2))
	look("no such file", w)
	w = grown(t, 3)
	good, _ := w.d.Read(blockFile(2))
	w.d.Cut(blockFile(2), 10)
	w.d.Append(blockFile(2), good[10:]) // it stands there whole, though not synced
	w.loads("A2: not synced", 2)
}

// TestWrongStates: likewise of the state's file.
func TestWrongStates(t *testing.T) {
	text := must(wire.EncodeState(state(2, 0)))
	begin := state(0, 0)
	for what, c := range map[string]struct {
		bytes []byte
		want  api.Errno
	}{
		"as it is":                {withSum(text), api.OK},
		"of a lower height":       {withSum(must(wire.EncodeState(state(1, 0)))), api.OK},
		"no byte":                 {nil, api.ErrSpoilt},
		"31 bytes":                {make([]byte, 31), api.ErrSpoilt},
		"no text":                 {withSum(nil), api.ErrSpoilt},
		"the text alone":          {text, api.ErrSpoilt},
		"a byte behind":           {append(withSum(text), 0), api.ErrSpoilt},
		"a cut text":              {withSum(text[:len(text)-1]), api.ErrSpoilt},
		"more text":               {withSum(append(slices.Clone(text), 0)), api.ErrSpoilt},
		"the beginning's":         {withSum(must(wire.EncodeState(begin))), api.ErrSpoilt},
		"of a height above":       {withSum(must(wire.EncodeState(state(3, 0)))), api.ErrSpoilt},
		"of the greatest height":  {withSum(must(wire.EncodeState(state(api.MaxHeight, 0)))), api.ErrSpoilt},
		"a block with its number": {wrongFiles(t)["another block's"], api.ErrSpoilt},
	} {
		w := grown(t, 2)
		w.put("state", c.bytes)
		want := api.State{}
		if c.want == api.OK {
			want, _ = wire.DecodeState(c.bytes[:len(c.bytes)-32])
		}
		w.noted("A9: "+what, want, c.want)
		w.loads("P13.6: "+what, 1)
		w.loads("P13.6: "+what, 2)
		w.open(2)
		w.noted("A9: opened anew: "+what, want, c.want)
		w.is("A8: over what stands there: "+what, w.a.Note(state(2, 4)), api.OK)
		w.noted("A8: "+what, state(2, 4), api.OK)
	}
}

// TestSpoiltBytes: each byte, changed to others, is seen.
func TestSpoiltBytes(t *testing.T) {
	r := rand.New(rand.NewSource(131))
	w := grown(t, 3)
	w.is("A8", w.a.Note(state(3, 0)), api.OK)
	for _, file := range []string{blockFile(2), "state"} {
		good, _ := w.d.Read(file)
		for k := range good {
			for _, change := range []byte{1, 128, byte(1 + r.Intn(255)), byte(1 + r.Intn(255))} {
				bad := slices.Clone(good)
				bad[k] ^= change
				w.put(file, bad)
				want := [2]api.Errno{api.OK, api.OK}
				if file == "state" {
					want[1] = api.ErrSpoilt
				} else {
					want[0] = api.ErrSpoilt
				}
				_, _, e := w.a.Load(2)
				_, refusal := w.a.Noted()
				if e != want[0] || refusal != want[1] {
					t.Fatalf("P13.6: byte %d of %s: Load %d, Noted %d, want %v", k, file, e, refusal, want)
				}
			}
		}
		w.loads("P13.6", 1)
		w.loads("P13.6", 3)
		w.put(file, good)
	}
	w.loads("A2", 2)
	w.noted("A9", state(3, 0), api.OK)
}
