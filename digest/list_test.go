package digest_test

import (
	"bytes"
	"encoding/binary"
	"math"
	"math/rand"
	"slices"
	"strings"
	"testing"

	"assent/api"
	"assent/digest"
)

func itemsOf(texts ...string) [][]byte {
	var l [][]byte
	for _, s := range texts {
		l = append(l, []byte(s))
	}
	return l
}

// numbered are n items, no two alike; the first has no bytes.
func numbered(n int) [][]byte {
	l := make([][]byte, n)
	for k := range l {
		l[k] = bytes.Repeat([]byte{byte(k), byte(k >> 8)}, min(k, 40))
		if k > 0 {
			l[k] = append(l[k], byte(k), byte(k>>8))
		}
	}
	return l
}

// below is the greatest power of two below n.
func below(n int) int {
	k := 1
	for 2*k < n {
		k *= 2
	}
	return k
}

// topOf is a list's top as the chapter's words say it.
func topOf(l [][]byte) api.Hash {
	switch len(l) {
	case 0:
		return reference(nil)
	case 1:
		return reference(append([]byte{0}, l[0]...))
	}
	k := below(len(l))
	left, right := topOf(l[:k]), topOf(l[k:])
	return reference(slices.Concat([]byte{1}, left[:], right[:]))
}

// rootOf is a list's root as the chapter's words say it.
func rootOf(l [][]byte) api.Hash {
	text := binary.LittleEndian.AppendUint64([]byte{2}, uint64(len(l)))
	top := topOf(l)
	return reference(append(text, top[:]...))
}

// wayOf is the way of a place as the chapter's words say it.
func wayOf(l [][]byte, at int) []api.Hash {
	if len(l) == 1 {
		return nil
	}
	k := below(len(l))
	if at < k {
		return append(wayOf(l[:k], at), topOf(l[k:]))
	}
	return append(wayOf(l[k:], at-k), topOf(l[:k]))
}

func mustRoot(t *testing.T, l [][]byte) api.Hash {
	t.Helper()
	h, e := digest.Root(l)
	wantErr(t, "Root", e, api.OK)
	return h
}

func mustProve(t *testing.T, l [][]byte, at int) api.Proof {
	t.Helper()
	p, e := digest.Prove(l, at)
	wantErr(t, "Prove", e, api.OK)
	return p
}

func sameProof(p, q api.Proof) bool {
	return p.Total == q.Total && p.Index == q.Index && slices.Equal(p.Aunts, q.Aunts)
}

func TestRootExamples(t *testing.T) {
	for _, c := range []struct {
		l    [][]byte
		want string
	}{
		{nil, "f0c1e0b4cd1983b9c92909f8145cc102993e4c797489c0ba98639fd93056b82f"},
		{[][]byte{}, "f0c1e0b4cd1983b9c92909f8145cc102993e4c797489c0ba98639fd93056b82f"},
		{itemsOf("a"), "35a1c30d7d145747099995f71e8e5df983d1efd6dea4d82aee1f9dcd2623f218"},
		{itemsOf("a", "b"), "1fe9aafb495d085101c4c18ee8897d9d02c4c1872e9f3fa17d02369d9cb43e28"},
		{itemsOf("a", "b", "c"), "9e02dbdc2618853530e6efc1b84d50c0efb7cbbafea86c904a02459a491e0930"},
	} {
		wantHash(t, "P2.4 Root of "+string(bytes.Join(c.l, []byte(","))), mustRoot(t, c.l), c.want)
	}
}

func TestRootOfEachNumber(t *testing.T) {
	for n := range 70 {
		if mustRoot(t, numbered(n)) != rootOf(numbered(n)) {
			t.Errorf("P2.4: another root of %d items", n)
		}
	}
	for _, n := range []int{127, 128, 129, 255, 256, 257, 1000, 65535, 65536} {
		if mustRoot(t, numbered(n)) != rootOf(numbered(n)) {
			t.Errorf("P2.4: another root of %d items", n)
		}
	}
}

func TestNilItemIsEmpty(t *testing.T) {
	if mustRoot(t, [][]byte{nil, {}}) != mustRoot(t, [][]byte{{}, nil}) {
		t.Error("G1: a nil item is not an empty one")
	}
	if mustRoot(t, [][]byte{nil}) == mustRoot(t, nil) {
		t.Error("P2.4: a list of one empty item has the root of none")
	}
}

func TestTooBig(t *testing.T) {
	large := make([]byte, api.MaxItem+1)
	for _, c := range []struct {
		what string
		l    [][]byte
		want api.Errno
	}{
		{"65537 items", make([][]byte, api.MaxItems+1), api.ErrBig},
		{"a large item alone", [][]byte{large}, api.ErrBig},
		{"a large item first", [][]byte{large, nil, nil}, api.ErrBig},
		{"a large item last", [][]byte{nil, nil, large}, api.ErrBig},
		{"65536 items", make([][]byte, api.MaxItems), api.OK},
		{"the greatest item", [][]byte{large[1:], nil}, api.OK},
	} {
		h, e := digest.Root(c.l)
		wantErr(t, "P2.4 "+c.what, e, c.want)
		if (h == api.Hash{}) != (e != api.OK) {
			t.Errorf("G2: Root of %s answers %x beside error %d", c.what, h, e)
		}
		p, e := digest.Prove(c.l, 0)
		wantErr(t, "P2.5 "+c.what, e, c.want)
		if e != api.OK && !sameProof(p, api.Proof{}) {
			t.Errorf("G2: Prove of %s answers a proof beside its error", c.what)
		}
		if c.want != api.OK {
			for _, at := range []int{-1, len(c.l), math.MinInt, math.MaxInt} {
				_, e = digest.Prove(c.l, at)
				wantErr(t, "P2.5, ErrBig ahead of ErrArg, "+c.what, e, api.ErrBig)
			}
		}
	}
}

func TestProveExamples(t *testing.T) {
	three := itemsOf("a", "b", "c")
	a, b, c := digest.Leaf(three[0]), digest.Leaf(three[1]), digest.Leaf(three[2])
	for _, w := range []api.Proof{
		{Total: 3, Index: 0, Aunts: []api.Hash{b, c}},
		{Total: 3, Index: 1, Aunts: []api.Hash{a, c}},
		{Total: 3, Index: 2, Aunts: []api.Hash{digest.Inner(a, b)}},
	} {
		if p := mustProve(t, three, w.Index); !sameProof(p, w) {
			t.Errorf("P2.5: at %d of three: %v", w.Index, p)
		}
	}
	if p := mustProve(t, three[:1], 0); !sameProof(p, api.Proof{Total: 1}) {
		t.Errorf("P2.5: of one item: %v", p)
	}
	five := itemsOf("a", "b", "c", "d", "e")
	for at, want := range []int{3, 3, 3, 3, 1} {
		if n := len(mustProve(t, five, at).Aunts); n != want {
			t.Errorf("P2.5: at %d of five: %d digests, want %d", at, n, want)
		}
	}
}

func TestProveOfEachPlace(t *testing.T) {
	for n := 1; n < 40; n++ {
		l := numbered(n)
		for at := range l {
			want := api.Proof{Total: n, Index: at, Aunts: wayOf(l, at)}
			if p := mustProve(t, l, at); !sameProof(p, want) {
				t.Errorf("P2.5: at %d of %d: %v, want %v", at, n, p, want)
			}
		}
	}
}

func TestProveOutOfPlace(t *testing.T) {
	for n := range 6 {
		for _, at := range []int{n, n + 1, -1, math.MinInt, math.MaxInt, 1 << 32, 1<<32 + n - 1} {
			p, e := digest.Prove(numbered(n), at)
			wantErr(t, "P2.5: a place that is none", e, api.ErrArg)
			if !sameProof(p, api.Proof{}) {
				t.Errorf("G2: at %d of %d a proof beside the error", at, n)
			}
		}
	}
	_, e := digest.Prove(nil, 0)
	wantErr(t, "P2.5: of nil", e, api.ErrArg)
}

func TestPathOfFreeDigests(t *testing.T) {
	// Path reckons whatever the aunts are: here they belong to no list.
	r := rand.New(rand.NewSource(26))
	for n := 1; n < 40; n++ {
		for at := range n {
			p := api.Proof{Total: n, Index: at, Aunts: make([]api.Hash, len(wayOf(make([][]byte, n), at)))}
			for k := range p.Aunts {
				r.Read(p.Aunts[k][:])
			}
			item := rising(r.Intn(100))
			h, e := digest.Path(p, item)
			wantErr(t, "P2.6", e, api.OK)
			top := climbed(n, at, p.Aunts, digest.Leaf(item))
			text := binary.LittleEndian.AppendUint64([]byte{2}, uint64(n))
			if h != reference(append(text, top[:]...)) {
				t.Errorf("P2.6: another root at %d of %d", at, n)
			}
			wantErr(t, "P2.7", digest.Verify(h, p, item), api.OK)
			h[31] ^= 1
			wantErr(t, "P2.7 of another root", digest.Verify(h, p, item), api.ErrRoot)
			wantErr(t, "P2.7 of the zero Hash", digest.Verify(api.Hash{}, p, item), api.ErrRoot)
		}
	}
}

// climbed goes from the leaf on up, by the sides that a walk down has written.
func climbed(n, at int, aunts []api.Hash, h api.Hash) api.Hash {
	var onRight []bool
	for n > 1 {
		k := below(n)
		onRight = append(onRight, at >= k)
		if at < k {
			n = k
		} else {
			n, at = n-k, at-k
		}
	}
	for k, aunt := range aunts {
		if onRight[len(onRight)-1-k] {
			h = digest.Inner(aunt, h)
		} else {
			h = digest.Inner(h, aunt)
		}
	}
	return h
}

func TestPathRefuses(t *testing.T) {
	l := itemsOf("a", "b", "c")
	p := mustProve(t, l, 1)
	with := func(total, index, aunts int) api.Proof {
		return api.Proof{Total: total, Index: index, Aunts: make([]api.Hash, aunts)}
	}
	for what, q := range map[string]api.Proof{
		"the zero Proof": {}, "Total 0": with(0, 0, 0), "Total 0 with digests": with(0, 0, 2), "Total -1": with(-1, -2, 0),
		"the least Total": with(math.MinInt, 0, 0), "the greatest Total": with(math.MaxInt, 0, 63), "Total 65537": with(65537, 0, 17), "Total 65537 at its end": with(65537, 65536, 1),
		"Index 3 of 3": with(3, 3, 1), "Index 3 of 3 with two": with(3, 3, 2), "Index -1": with(3, -1, 2), "the least Index": with(3, math.MinInt, 2), "the greatest Index": with(3, math.MaxInt, 1),
		"Index 1 of 1": with(1, 1, 0), "Index 2 of 3 with two": with(3, 2, 2), "Index 1 of 3 with one": with(3, 1, 1), "Index 1 of 3 with three": with(3, 1, 3), "none at all": with(3, 1, 0),
		"one too many of 1": with(1, 0, 1), "three of five at its end": with(5, 4, 3), "17 of 65536": with(65536, 0, 17), "15 of 65536": with(65536, 0, 15),
	} {
		h, e := digest.Path(q, l[1])
		wantErr(t, "P2.6 "+what, e, api.ErrProof)
		if h != (api.Hash{}) {
			t.Errorf("G2: %s: a Hash beside the error", what)
		}
		wantErr(t, "P2.7 "+what, digest.Verify(api.Hash{}, q, l[1]), api.ErrProof)
	}
	_, e := digest.Path(with(65536, 65535, 16), nil)
	wantErr(t, "P2.6 of the greatest Total", e, api.OK)

	large := make([]byte, api.MaxItem+1)
	h, e := digest.Path(p, large)
	wantErr(t, "P2.6 of a large item", e, api.ErrBig)
	if h != (api.Hash{}) {
		t.Error("G2: a Hash beside ErrBig")
	}
	_, e = digest.Path(api.Proof{}, large)
	wantErr(t, "P2.6, ErrBig ahead of ErrProof", e, api.ErrBig)
	wantErr(t, "P2.7, ErrBig ahead of ErrProof", digest.Verify(api.Hash{}, api.Proof{}, large), api.ErrBig)
	wantErr(t, "P2.7, ErrBig ahead of ErrRoot", digest.Verify(api.Hash{}, p, large), api.ErrBig)
	_, e = digest.Path(p, large[1:])
	wantErr(t, "P2.6 of the greatest item", e, api.OK)
}

func TestVerifyExamples(t *testing.T) {
	l := itemsOf("a", "b", "c")
	root, p := mustRoot(t, l), mustProve(t, l, 1)
	for _, c := range []struct {
		what         string
		total, index int
		item         string
		want         api.Errno
	}{
		{"right", 3, 1, "b", api.OK}, {"another item", 3, 1, "a", api.ErrRoot}, {"Index 0", 3, 0, "b", api.ErrRoot},
		{"Index 2", 3, 2, "b", api.ErrProof}, {"Total 4", 4, 1, "b", api.ErrRoot},
	} {
		q := api.Proof{Total: c.total, Index: c.index, Aunts: p.Aunts}
		wantErr(t, "P2.7 "+c.what, digest.Verify(root, q, []byte(c.item)), c.want)
	}
}

func TestWhatProveAnswersVerifyLets(t *testing.T) {
	for n := 1; n < 70; n++ {
		l := numbered(n)
		root := mustRoot(t, l)
		for at := range l {
			p := mustProve(t, l, at)
			wantErr(t, "P2.9", digest.Verify(root, p, l[at]), api.OK)
			if h, e := digest.Path(p, l[at]); h != root || e != api.OK {
				t.Errorf("P2.9: Path at %d of %d: %x, %d", at, n, h, e)
			}
		}
	}
	l := numbered(api.MaxItems)
	root := mustRoot(t, l)
	for _, at := range []int{0, 1, 32767, 32768, 65535} {
		wantErr(t, "P2.9 of the longest list", digest.Verify(root, mustProve(t, l, at), l[at]), api.OK)
	}
}

// TestBinding goes through every Total and Index near a list, with each list's own digests of all heights as aunts: only Prove's own proof with its own item is let.
func TestBinding(t *testing.T) {
	for n := 1; n <= 5; n++ {
		l := numbered(n)
		root := mustRoot(t, l)
		known := []api.Hash{{}}
		for i := range l {
			for j := i + 1; j <= n; j++ {
				known = append(known, topOf(l[i:j]))
			}
		}
		for total := 0; total <= 9; total++ {
			for index := -1; index <= total; index++ {
				tryAll(t, l, root, api.Proof{Total: total, Index: index}, known, 3)
			}
		}
	}
}

// tryAll tries p with all lists of up to so many more of the known digests behind its own.
func tryAll(t *testing.T, l [][]byte, root api.Hash, p api.Proof, known []api.Hash, more int) {
	t.Helper()
	for at, item := range l {
		if digest.Verify(root, p, item) != api.OK {
			continue
		}
		if at != p.Index || !sameProof(p, mustProve(t, l, at)) {
			t.Fatalf("P2.10: of %d items, item %d is let with %v", len(l), at, p)
		}
	}
	if more == 0 {
		return
	}
	for _, h := range known {
		q := p
		q.Aunts = append(slices.Clone(p.Aunts), h)
		tryAll(t, l, root, q, known, more-1)
	}
}

// TestTextsOfOtherKindsAsItems hands in as items what is digested elsewhere in the tree: the marks keep them apart.
func TestTextsOfOtherKindsAsItems(t *testing.T) {
	l := itemsOf("a", "b", "c", "d")
	root := mustRoot(t, l)
	left, right := topOf(l[:2]), topOf(l[2:])
	text := slices.Concat(left[:], right[:])
	for _, item := range [][]byte{text, append([]byte{1}, text...), append([]byte{0}, "a"...), left[:], root[:]} {
		for _, p := range []api.Proof{{Total: 1}, {Total: 2, Aunts: []api.Hash{right}}, {Total: 4, Aunts: []api.Hash{digest.Leaf(l[1]), right}}, {Total: 2, Index: 1, Aunts: []api.Hash{left}}} {
			wantErr(t, "P2.10: a text of another kind", digest.Verify(root, p, item), api.ErrRoot)
		}
	}
	inner := slices.Concat([]byte{1}, left[:], right[:])
	if digest.Leaf(inner) == digest.Inner(left, right) || digest.Leaf(inner[1:]) == digest.Inner(left, right) {
		t.Error("P2.10: a Leaf is an Inner")
	}
}

func TestTwoListsWithOneRoot(t *testing.T) {
	seen := map[api.Hash]string{}
	var build func(l []string, more int)
	build = func(l []string, more int) {
		name := strings.Join(l, "|") + "#" + string(rune('0'+len(l)))
		root := mustRoot(t, itemsOf(l...))
		if other, ok := seen[root]; ok {
			t.Fatalf("P2.10: %q and %q have one root", name, other)
		}
		seen[root] = name
		if more > 0 {
			for _, s := range []string{"", "a", "b", "ab"} {
				build(append(slices.Clone(l), s), more-1)
			}
		}
	}
	build(nil, 5)
}

func TestAlteredProofs(t *testing.T) {
	for _, n := range []int{1, 2, 3, 5, 8, 13, 33} {
		l := numbered(n)
		root := mustRoot(t, l)
		for at := range l {
			p := mustProve(t, l, at)
			for what, q := range altered(p) {
				if e := digest.Verify(root, q, l[at]); e != api.ErrProof && e != api.ErrRoot {
					t.Errorf("P2.11: %s at %d of %d: %d", what, at, n, e)
				}
			}
			for _, item := range [][]byte{append(slices.Clone(l[at]), 0), append([]byte{0}, l[at]...), []byte("other")} {
				wantErr(t, "P2.11: another item", digest.Verify(root, p, item), api.ErrRoot)
			}
		}
	}
}

// altered are proofs that differ from p, by what is done to them.
func altered(p api.Proof) map[string]api.Proof {
	m := map[string]api.Proof{}
	with := func(what string, k int, aunts []api.Hash) {
		m[what+" "+string(rune('0'+k))] = api.Proof{Total: p.Total, Index: p.Index, Aunts: aunts}
	}
	for k := -2; k <= 2*p.Total; k++ {
		if k != p.Total {
			m["Total "+string(rune('0'+k))] = api.Proof{Total: k, Index: p.Index, Aunts: p.Aunts}
		}
		if k != p.Index {
			m["Index "+string(rune('0'+k))] = api.Proof{Total: p.Total, Index: k, Aunts: p.Aunts}
		}
	}
	for k, h := range p.Aunts {
		turned := slices.Clone(p.Aunts)
		turned[k][31-k] ^= 0x10
		with("turned", k, turned)
		with("left out", k, slices.Delete(slices.Clone(p.Aunts), k, k+1))
		with("doubled", k, slices.Insert(slices.Clone(p.Aunts), k, h))
		if k > 0 {
			changed := slices.Clone(p.Aunts)
			changed[k-1], changed[k] = changed[k], changed[k-1]
			with("changed about", k, changed)
		}
	}
	for k := range len(p.Aunts) + 1 {
		with("added", k, slices.Insert(slices.Clone(p.Aunts), k, api.Hash{}))
	}
	return m
}

func TestListsAreLeftAndAnswersAreNew(t *testing.T) {
	l := numbered(9)
	before := make([][]byte, len(l))
	for k := range l {
		before[k] = slices.Clone(l[k])
	}
	root, p, again := mustRoot(t, l), mustProve(t, l, 4), mustProve(t, l, 4)
	want := slices.Clone(p.Aunts)
	wantErr(t, "Verify", digest.Verify(root, p, l[4]), api.OK)
	if !slices.EqualFunc(l, before, bytes.Equal) || !slices.Equal(p.Aunts, want) {
		t.Fatal("G3: what is handed in is changed")
	}
	clear(p.Aunts[:cap(p.Aunts)])
	if !slices.Equal(again.Aunts, want) {
		t.Error("G3: two answers share their digests")
	}
	for k := range l {
		clear(l[k])
	}
	if !slices.Equal(again.Aunts, want) {
		t.Error("G3: an answer shares memory with the items")
	}
	if mustRoot(t, before) != root || !sameProof(mustProve(t, before, 4), again) {
		t.Error("G4: the same again answers otherwise")
	}
}

func TestRoomBehindAuntsIsLeft(t *testing.T) {
	l := itemsOf("a", "b", "c")
	p := mustProve(t, l, 1)
	room := append(slices.Clone(p.Aunts), api.Hash{1}, api.Hash{2})
	want := slices.Clone(room)
	p.Aunts = room[:2]
	wantErr(t, "Verify", digest.Verify(mustRoot(t, l), p, l[1]), api.OK)
	if !slices.Equal(room, want) {
		t.Error("G3: the room behind the digests is changed")
	}
}
