package digest

import (
	"math/bits"

	"assent/api"
)

// Root binds a list: its items, their order and their number.
func Root(items [][]byte) (api.Hash, api.Errno) {
	if tooBig(items) {
		return api.Hash{}, api.ErrBig
	}
	return rootOf(len(items), top(items)), api.OK
}

// Prove shows that an item stands at a place of the list.
func Prove(items [][]byte, at int) (api.Proof, api.Errno) {
	if tooBig(items) {
		return api.Proof{}, api.ErrBig
	}
	if at < 0 || at >= len(items) {
		return api.Proof{}, api.ErrArg
	}
	return api.Proof{Total: len(items), Index: at, Aunts: way(items, at)}, api.OK
}

// Path is the root that a proof leads to.
func Path(p api.Proof, item []byte) (api.Hash, api.Errno) {
	if len(item) > api.MaxItem {
		return api.Hash{}, api.ErrBig
	}
	if !fits(p) {
		return api.Hash{}, api.ErrProof
	}
	return rootOf(p.Total, climb(p.Total, p.Index, p.Aunts, Leaf(item))), api.OK
}

// Verify looks whether a proof shows that the item stands in the list of that root.
func Verify(root api.Hash, p api.Proof, item []byte) api.Errno {
	led, e := Path(p, item)
	if e != api.OK {
		return e
	}
	if led != root {
		return api.ErrRoot
	}
	return api.OK
}

func tooBig(items [][]byte) bool {
	if len(items) > api.MaxItems {
		return true
	}
	for _, item := range items {
		if len(item) > api.MaxItem {
			return true
		}
	}
	return false
}

// rootOf puts the number of items to the top: a top alone does not tell how many there are.
func rootOf(n int, top api.Hash) api.Hash {
	var number [8]byte
	for k := range number {
		number[k] = byte(n >> (8 * k))
	}
	return sumOf([]byte{rootMark}, number[:], top[:])
}

// split is how many of n items, n above 1, stand on the left side: the greatest power of two below n.
func split(n int) int { return 1 << (bits.Len(uint(n-1)) - 1) }

func top(items [][]byte) api.Hash {
	switch n := len(items); n {
	case 0:
		return Sum(nil)
	case 1:
		return Leaf(items[0])
	default:
		k := split(n)
		return Inner(top(items[:k]), top(items[k:]))
	}
}

// way is what stands beside the way of a place, from its leaf on up.
func way(items [][]byte, at int) []api.Hash {
	n := len(items)
	if n == 1 {
		return nil
	}
	k := split(n)
	if at < k {
		return append(way(items[:k], at), top(items[k:]))
	}
	return append(way(items[k:], at-k), top(items[:k]))
}

// fits tells whether a proof has a place in a list, and just the digests that its way needs.
func fits(p api.Proof) bool {
	if p.Total < 1 || p.Total > api.MaxItems || p.Index < 0 || p.Index >= p.Total {
		return false
	}
	return len(p.Aunts) == steps(p.Total, p.Index)
}

// steps is how long the way of a place is in a list of n items.
func steps(n, at int) int {
	if n == 1 {
		return 0
	}
	k := split(n)
	if at < k {
		return 1 + steps(k, at)
	}
	return 1 + steps(n-k, at-k)
}

// climb is the top of a list of n items of which one, at its place, has this leaf. The last of the aunts stands highest, so it is met first on the way down.
func climb(n, at int, aunts []api.Hash, leaf api.Hash) api.Hash {
	if n == 1 {
		return leaf
	}
	k, last := split(n), len(aunts)-1
	if at < k {
		return Inner(climb(k, at, aunts[:last], leaf), aunts[last])
	}
	return Inner(aunts[last], climb(n-k, at-k, aunts[:last], leaf))
}
