package ledger_test

import (
	"encoding/binary"
	"math"
	"math/big"
	"math/rand"
	"slices"
	"sort"
	"testing"

	"assent/api"
	"assent/digest"
	"assent/seal"
	"assent/wire"
)

// The model does what the chapter's words say by maps and by whole numbers of any size, without looking at how the package does it.

const (
	supply = api.MaxSupply
	name   = "c"
)

var params = api.Params{MinBond: 10, Seats: 2, Slash: 500, Period: 100}

func natural(n uint64) *big.Int { return new(big.Int).SetUint64(n) }

// book is a registry with the signers of some addresses.
type book struct {
	r       *seal.Registry
	signers map[api.Addr]*seal.Signer
}

func newBook(t *testing.T, addrs ...api.Addr) *book {
	t.Helper()
	b := &book{seal.New(), map[api.Addr]*seal.Signer{}}
	for _, a := range addrs {
		s, e := b.r.Enter(a)
		if e != api.OK {
			t.Fatalf("address %d can't be entered: error %d", a, e)
		}
		b.signers[a] = s
	}
	return b
}

// sealed is the transaction with the right seal, if it is plain and its sender is entered.
func (b *book) sealed(x api.Tx) api.Tx {
	x.Seal = api.Seal{}
	m, e := wire.TxBytes(name, x)
	if e == api.OK && b.signers[x.From] != nil {
		x.Seal, _ = b.signers[x.From].Sign(m)
	}
	return x
}

type due struct {
	height uint64
	addr   api.Addr
}

// heap is a ledger without order.
type heap struct {
	accounts map[api.Addr]api.Account
	rows     map[due]api.Release
	burnt    uint64
	supply   uint64
}

func heapOf(l api.Ledger) heap {
	h := heap{map[api.Addr]api.Account{}, map[due]api.Release{}, l.Burnt, l.Supply}
	for _, acc := range l.Accounts {
		h.accounts[acc.Addr] = acc
	}
	for _, row := range l.Releases {
		h.rows[due{row.Height, row.Addr}] = row
	}
	return h
}

func (h heap) ledger() api.Ledger {
	l := api.Ledger{Burnt: h.burnt, Supply: h.supply}
	for _, acc := range h.accounts {
		l.Accounts = append(l.Accounts, acc)
	}
	sort.Slice(l.Accounts, func(i, j int) bool { return l.Accounts[i].Addr < l.Accounts[j].Addr })
	for _, row := range h.rows {
		l.Releases = append(l.Releases, row)
	}
	sort.Slice(l.Releases, func(i, j int) bool {
		x, y := l.Releases[i], l.Releases[j]
		return x.Height < y.Height || x.Height == y.Height && x.Addr < y.Addr
	})
	return l
}

// give adds to an account's balance (take: a negative one), and makes the account.
func (h heap) give(a api.Addr, amount uint64) {
	acc := h.accounts[a]
	acc.Addr = a
	acc.Balance += amount
	h.accounts[a] = acc
}

func modelAccounts(list []api.Account) api.Errno {
	if len(list) > 65536 {
		return api.ErrCrowd
	}
	for k, acc := range list {
		if acc.Addr == 0 {
			return api.ErrNobody
		}
		if k > 0 && list[k-1].Addr >= acc.Addr {
			return api.ErrOrder
		}
		if acc.Balance >= 1<<60 || acc.Bond >= 1<<60 {
			return api.ErrSum
		}
	}
	return api.OK
}

func modelRows(l api.Ledger) api.Errno {
	known := heapOf(l).accounts
	for k, row := range l.Releases {
		if _, ok := known[row.Addr]; !ok {
			return api.ErrNobody
		}
		if row.Born > 1<<40 || row.Height < row.Born || row.Height > 1<<40+1<<32 {
			return api.ErrArg
		}
		if k > 0 {
			ahead := l.Releases[k-1]
			if row.Height < ahead.Height || row.Height == ahead.Height && row.Addr <= ahead.Addr {
				return api.ErrOrder
			}
		}
		if row.Amount == 0 || row.Amount >= 1<<60 {
			return api.ErrSum
		}
	}
	return api.OK
}

func modelWhole(l api.Ledger) *big.Int {
	sum := natural(l.Burnt)
	for _, acc := range l.Accounts {
		sum.Add(sum, natural(acc.Balance))
		sum.Add(sum, natural(acc.Bond))
	}
	for _, row := range l.Releases {
		sum.Add(sum, natural(row.Amount))
	}
	return sum
}

func modelSound(l api.Ledger) api.Errno {
	if len(l.Accounts) > 65536 || len(l.Releases) > 65536 {
		return api.ErrCrowd
	}
	if e := modelAccounts(l.Accounts); e != api.OK {
		return e
	}
	if e := modelRows(l); e != api.OK {
		return e
	}
	if l.Supply >= 1<<60 || modelWhole(l).Cmp(natural(l.Supply)) != 0 {
		return api.ErrSum
	}
	return api.OK
}

// modelCheck is step by step what P8.4 lists; sealedRight says whether the seal is the sender's.
func modelCheck(l api.Ledger, chain string, p api.Params, height uint64, x api.Tx, sealedRight bool) api.Errno {
	if height == 0 || height > 1<<40 || p.Period > 1<<32 {
		return api.ErrArg
	}
	if _, e := wire.TxBytes(chain, x); e != api.OK {
		return e
	}
	if !sealedRight {
		return api.ErrSeal
	}
	h := heapOf(l)
	acc, ok := h.accounts[x.From]
	if !ok {
		return api.ErrNobody
	}
	if x.Nonce != acc.Nonce || x.Nonce == math.MaxUint64 {
		return api.ErrNonce
	}
	need := natural(x.Fee)
	if x.Kind == api.TxPay || x.Kind == api.TxBond {
		need.Add(need, natural(x.Amount))
	}
	if need.Cmp(natural(acc.Balance)) > 0 {
		return api.ErrFunds
	}
	_, hasTo := h.accounts[x.To]
	_, hasRow := h.rows[due{height + p.Period, x.From}]
	switch {
	case x.Kind == api.TxPay && !hasTo && len(h.accounts) == 65536:
		return api.ErrCrowd
	case x.Kind == api.TxUnbond && (x.Amount == 0 || x.Amount > acc.Bond):
		return api.ErrBond
	case x.Kind == api.TxUnbond && !hasRow && len(h.rows) == 65536:
		return api.ErrCrowd
	case x.Kind == api.TxFree && !acc.Jailed:
		return api.ErrJail
	case x.Kind == api.TxFree && acc.Bond < p.MinBond:
		return api.ErrBond
	}
	return api.OK
}

// modelApply is of a transaction that modelCheck takes.
func modelApply(l api.Ledger, p api.Params, height uint64, proposer api.Addr, x api.Tx) api.Ledger {
	h := heapOf(l)
	acc := h.accounts[x.From]
	acc.Nonce++
	acc.Balance -= x.Fee
	h.accounts[x.From] = acc
	switch x.Kind {
	case api.TxPay:
		h.give(x.From, -x.Amount)
		h.give(x.To, x.Amount)
	case api.TxBond:
		acc.Balance -= x.Amount
		acc.Bond += x.Amount
		h.accounts[x.From] = acc
	case api.TxUnbond:
		acc.Bond -= x.Amount
		h.accounts[x.From] = acc
		key := due{height + p.Period, x.From}
		row, ok := h.rows[key]
		if !ok {
			row = api.Release{Height: key.height, Addr: x.From, Born: height}
		}
		row.Amount += x.Amount
		h.rows[key] = row
	case api.TxFree:
		acc.Jailed = false
		h.accounts[x.From] = acc
	}
	if _, ok := h.accounts[proposer]; ok {
		h.give(proposer, x.Fee)
	} else {
		h.burnt += x.Fee
	}
	return h.ledger()
}

// modelShare is so many thousandths, rounded down.
func modelShare(amount, slash uint64) uint64 {
	x := new(big.Int).Mul(natural(amount), natural(slash))
	return x.Div(x, natural(1000)).Uint64()
}

func modelPunish(l api.Ledger, p api.Params, a api.Addr, height uint64) (api.Ledger, api.Errno) {
	if height == 0 || height > 1<<40 || p.Slash > 1000 {
		return api.Ledger{}, api.ErrArg
	}
	h := heapOf(l)
	acc, ok := h.accounts[a]
	if !ok {
		return api.Ledger{}, api.ErrNobody
	}
	lost := modelShare(acc.Bond, p.Slash)
	h.burnt += lost
	acc.Bond -= lost
	acc.Jailed = true
	h.accounts[a] = acc
	for key, row := range h.rows {
		if row.Addr != a || row.Born+1 < height {
			continue
		}
		lost := modelShare(row.Amount, p.Slash)
		h.burnt += lost
		row.Amount -= lost
		h.rows[key] = row
		if row.Amount == 0 {
			delete(h.rows, key)
		}
	}
	return h.ledger(), api.OK
}

func modelPay(l api.Ledger, height uint64) (api.Ledger, api.Errno) {
	if height == 0 || height > 1<<40 {
		return api.Ledger{}, api.ErrArg
	}
	h := heapOf(l)
	for key, row := range h.rows {
		if row.Height <= height {
			h.give(row.Addr, row.Amount)
			delete(h.rows, key)
		}
	}
	return h.ledger(), api.OK
}

// modelSeats takes the best of those that are left, again and again.
func modelSeats(l api.Ledger, p api.Params) (seats []api.Member) {
	left := heapOf(l).accounts
	for len(seats) < p.Seats && len(seats) < 64 {
		var best api.Account
		for _, acc := range left {
			if acc.Jailed || acc.Bond < p.MinBond || acc.Bond == 0 {
				continue
			}
			if best.Addr == 0 || acc.Bond > best.Bond || acc.Bond == best.Bond && acc.Addr < best.Addr {
				best = acc
			}
		}
		if best.Addr == 0 {
			break
		}
		delete(left, best.Addr)
		seats = append(seats, api.Member{Addr: best.Addr, Power: best.Bond})
	}
	sort.Slice(seats, func(i, j int) bool { return seats[i].Addr < seats[j].Addr })
	return seats
}

func modelForm(acc api.Account) []byte {
	var b []byte
	for _, n := range []uint64{uint64(acc.Addr), acc.Balance, acc.Bond, acc.Nonce} {
		b = binary.LittleEndian.AppendUint64(b, n)
	}
	if acc.Jailed {
		return append(b, 1)
	}
	return append(b, 0)
}

func modelForms(l api.Ledger) (forms [][]byte) {
	for _, acc := range l.Accounts {
		forms = append(forms, modelForm(acc))
	}
	return forms
}

func modelRest(l api.Ledger) api.Hash {
	numbers := []uint64{uint64(len(l.Releases))}
	for _, row := range l.Releases {
		numbers = append(numbers, row.Height, uint64(row.Addr), row.Born, row.Amount)
	}
	var b []byte
	for _, n := range append(numbers, l.Burnt, l.Supply) {
		b = binary.LittleEndian.AppendUint64(b, n)
	}
	return digest.Sum(b)
}

func modelRoot(l api.Ledger) api.Hash {
	top, _ := digest.Root(modelForms(l))
	return digest.Inner(top, modelRest(l))
}

// sameLedger: a nil list and an empty one mean the same.
func sameLedger(x, y api.Ledger) bool {
	return slices.Equal(x.Accounts, y.Accounts) && slices.Equal(x.Releases, y.Releases) && x.Burnt == y.Burnt && x.Supply == y.Supply
}

func copyOf(l api.Ledger) api.Ledger {
	l.Accounts, l.Releases = slices.Clone(l.Accounts), slices.Clone(l.Releases)
	return l
}

// closed is the ledger with the supply that it comes to.
func closed(l api.Ledger) api.Ledger {
	l.Supply = modelWhole(l).Uint64()
	return l
}

func wantErr(t *testing.T, what string, got, want api.Errno) {
	t.Helper()
	if got != want {
		t.Errorf("%s: error %d, want %d", what, got, want)
	}
}

func wantLedger(t *testing.T, what string, got api.Ledger, e api.Errno, want api.Ledger) {
	t.Helper()
	if e != api.OK || !sameLedger(got, want) {
		t.Errorf("%s: %v, error %d, want %v", what, got, e, want)
	}
}

// wantRefused: beside an error every other answer is the zero value.
func wantRefused(t *testing.T, what string, got api.Ledger, e, want api.Errno) {
	t.Helper()
	if e != want || !sameLedger(got, api.Ledger{}) {
		t.Errorf("%s: %v, error %d, want none and error %d", what, got, e, want)
	}
}

// someAmount is now small, now of any size, and at most what is left.
func someAmount(r *rand.Rand, left uint64) uint64 {
	if left == 0 || r.Intn(5) == 0 {
		return 0
	}
	if r.Intn(3) > 0 {
		return min(left, uint64(r.Intn(60)))
	}
	return r.Uint64() % (left/4 + 1)
}

func someNonce(r *rand.Rand) uint64 {
	return []uint64{0, 0, 1, 7, math.MaxUint64 - 1, math.MaxUint64}[r.Intn(6)]
}

// someSound is a sound ledger around the height 10, with addresses up to 12, and now and then the greatest one.
func someSound(r *rand.Rand) api.Ledger {
	var l api.Ledger
	left := uint64(supply)
	take := func() uint64 {
		x := someAmount(r, left)
		left -= x
		return x
	}
	for a := api.Addr(1); a <= 12; a++ {
		if r.Intn(2) == 0 {
			l.Accounts = append(l.Accounts, api.Account{Addr: a, Balance: take(), Bond: take(), Nonce: someNonce(r), Jailed: r.Intn(3) == 0})
		}
	}
	if r.Intn(4) == 0 {
		l.Accounts = append(l.Accounts, api.Account{Addr: math.MaxUint64, Balance: take(), Bond: take()})
	}
	for h := uint64(r.Intn(20)); len(l.Accounts) > 0 && h < 20 && r.Intn(4) > 0; h += uint64(r.Intn(4)) {
		for _, acc := range l.Accounts {
			if x := take(); x > 0 && r.Intn(3) == 0 && (len(l.Releases) == 0 || l.Releases[len(l.Releases)-1].Height < h || l.Releases[len(l.Releases)-1].Addr < acc.Addr) {
				l.Releases = append(l.Releases, api.Release{Height: h, Addr: acc.Addr, Born: uint64(r.Intn(int(h) + 1)), Amount: x})
			}
		}
	}
	l.Burnt = take()
	return closed(l)
}

// someTx is a transaction that is now good, now bad in one thing or more.
func someTx(r *rand.Rand, l api.Ledger) api.Tx {
	x := api.Tx{Kind: 1 + r.Intn(4), From: api.Addr(1 + r.Intn(12)), Fee: uint64(r.Intn(4)), Amount: uint64(r.Intn(40))}
	if len(l.Accounts) > 0 && r.Intn(10) > 0 {
		acc := l.Accounts[r.Intn(len(l.Accounts))]
		x.From, x.Nonce = acc.Addr, acc.Nonce
		x.Fee = min(x.Fee, acc.Balance)
		switch {
		case x.Kind == api.TxUnbond:
			x.Amount = min(x.Amount, acc.Bond)
		case r.Intn(3) > 0:
			x.Amount = min(x.Amount, acc.Balance-x.Fee)
		}
	}
	if x.Kind == api.TxPay {
		x.To = api.Addr(1 + r.Intn(14))
	}
	if x.Kind == api.TxFree {
		x.Amount = 0
	}
	switch r.Intn(24) {
	case 0:
		x.Nonce++
	case 1:
		x.Amount = r.Uint64() >> r.Intn(64)
	case 2:
		x.Fee = r.Uint64() >> r.Intn(64)
	case 3:
		x.Kind = r.Intn(7) - 1
	case 4:
		x.To = api.Addr(r.Intn(2))
	}
	return x
}
