package ledger

import (
	"cmp"
	"slices"
	"sort"

	"assent/api"
)

// thousandths are what a Slash is told in.
const thousandths = 1000

// Punish burns a part of an offender's bond and of what it has let go since the block ahead of a height, and puts it into jail.
func Punish(l api.Ledger, p api.Params, a api.Addr, height uint64) (api.Ledger, api.Errno) {
	if !isHeight(height) || p.Slash > thousandths {
		return api.Ledger{}, api.ErrArg
	}
	at, found := accountAt(l.Accounts, a)
	if !found {
		return api.Ledger{}, api.ErrNobody
	}
	next := copyOf(l)
	leftOf := func(amount uint64) uint64 {
		lost := share(amount, p.Slash)
		next.Burnt += lost
		return amount - lost
	}
	acc := &next.Accounts[at]
	acc.Bond = leftOf(acc.Bond)
	acc.Jailed = true
	for k := range next.Releases {
		if row := &next.Releases[k]; row.Addr == a && row.Born+1 >= height {
			row.Amount = leftOf(row.Amount)
		}
	}
	next.Releases = slices.DeleteFunc(next.Releases, func(row api.Release) bool { return row.Amount == 0 })
	return next, api.OK
}

// Pay pays the releases that are due at a height.
func Pay(l api.Ledger, height uint64) (api.Ledger, api.Errno) {
	if !isHeight(height) {
		return api.Ledger{}, api.ErrArg
	}
	due := sort.Search(len(l.Releases), func(k int) bool { return l.Releases[k].Height > height })
	next := l
	next.Accounts = copied(l.Accounts)
	for _, row := range l.Releases[:due] {
		if at, found := accountAt(next.Accounts, row.Addr); found {
			next.Accounts[at].Balance += row.Amount
		}
	}
	next.Releases = copied(l.Releases[due:])
	return next, api.OK
}

// Seats are who is to sit in a council, with their powers.
func Seats(l api.Ledger, p api.Params) []api.Member {
	rivals := rivalsOf(l.Accounts, max(p.MinBond, 1))
	slices.SortFunc(rivals, byBond)
	count := max(0, min(p.Seats, api.MaxSeats, len(rivals)))
	powers := map[api.Addr]uint64{}
	for _, acc := range rivals[:count] {
		powers[acc.Addr] = acc.Bond
	}
	// The accounts have the order that the seats are told in, which the map has not.
	var seats []api.Member
	for _, acc := range l.Accounts {
		if power, seated := powers[acc.Addr]; seated {
			seats = append(seats, api.Member{Addr: acc.Addr, Power: power})
		}
	}
	return seats
}

// share is so many thousandths, rounded down. The thousands and what is left of them are taken apart: the product of the whole would wrap.
func share(amount, parts uint64) uint64 {
	return amount/thousandths*parts + amount%thousandths*parts/thousandths
}

// rivalsOf are the accounts that may be seated.
func rivalsOf(accounts []api.Account, least uint64) []api.Account {
	var rivals []api.Account
	for _, acc := range accounts {
		if !acc.Jailed && acc.Bond >= least {
			rivals = append(rivals, acc)
		}
	}
	return rivals
}

// byBond puts the greatest bond first, of equal ones the least address.
func byBond(x, y api.Account) int {
	return cmp.Or(cmp.Compare(y.Bond, x.Bond), cmp.Compare(x.Addr, y.Addr))
}
