package ledger

import (
	"cmp"
	"sort"

	"assent/api"
)

// accountAt is where an account stands in a list by rising Addr, or would stand, and whether it is there.
func accountAt(accounts []api.Account, a api.Addr) (int, bool) {
	at := sort.Search(len(accounts), func(k int) bool { return accounts[k].Addr >= a })
	return at, at < len(accounts) && accounts[at].Addr == a
}

// rowAt is where the row that is due at that height for that account stands, or would stand, and whether it is there.
func rowAt(rows []api.Release, height uint64, a api.Addr) (int, bool) {
	sought := api.Release{Height: height, Addr: a}
	at := sort.Search(len(rows), func(k int) bool { return byDue(rows[k], sought) >= 0 })
	return at, at < len(rows) && byDue(rows[at], sought) == 0
}

// byDue is the order of rows: by Height, then Addr.
func byDue(x, y api.Release) int {
	return cmp.Or(cmp.Compare(x.Height, y.Height), cmp.Compare(x.Addr, y.Addr))
}

// copied is the list in memory of its own: an append to what has no room takes new memory.
func copied[T any](list []T) []T {
	if len(list) == 0 {
		return nil
	}
	return append(list[:0:0], list...)
}

// inserted is a copy of the list with one more at a place. What is ahead of the place ends there, room and all, so the append can't write over what is behind it.
func inserted[T any](list []T, at int, one T) []T {
	return append(append(list[:at:at], one), list[at:]...)
}

// copyOf is the ledger in memory of its own, to be changed in place.
func copyOf(l api.Ledger) api.Ledger {
	l.Accounts = copied(l.Accounts)
	l.Releases = copied(l.Releases)
	return l
}
