package wire

import (
	"slices"

	"assent/api"
	"assent/codec"
)

// EncodeState is the one form of the state of a chain, for a snapshot.
func EncodeState(x api.State) ([]byte, api.Errno) { return encode(x, plainState, layState) }

// DecodeState reads that.
func DecodeState(b []byte) (api.State, api.Errno) { return decode(b, readState, plainState) }

func plainState(x api.State) api.Errno {
	p := x.Params
	switch {
	case !isChain(x.Chain) || x.Height > api.MaxHeight || !isTime(x.Time):
		return api.ErrField
	case p.Seats < 1 || p.Seats > api.MaxSeats || p.MaxTxs < 0 || p.MaxTxs > api.MaxTxs:
		return api.ErrField
	case slices.ContainsFunc(councilsOf(x), isCrowded):
		return api.ErrBig
	case len(x.Past) > api.MaxAge || len(x.Ledger.Accounts) > api.MaxAccounts:
		return api.ErrBig
	case !isOrdered(x):
		return api.ErrOrder
	}
	return api.OK
}

// councilsOf is all councils that a state has.
func councilsOf(x api.State) []api.Council {
	l := []api.Council{x.Council, x.Next}
	for _, p := range x.Past {
		l = append(l, p.Council)
	}
	return l
}

func isCrowded(x api.Council) bool { return len(x.Members) > api.MaxSeats }

func isOrdered(x api.State) bool {
	for _, c := range councilsOf(x) {
		if !isRising(c.Members, memberPlace) {
			return false
		}
	}
	return isRising(x.Past, pastPlace) && isRising(x.Punished, offencePlace) &&
		isRising(x.Ledger.Accounts, accountPlace) && isRising(x.Ledger.Releases, releasePlace)
}

// place is what a list goes by: the heights, then the addresses. What a list does not go by is 0 in all its places.
type place struct {
	height uint64
	addr   api.Addr
}

func memberPlace(x api.Member) place { return place{addr: x.Addr} }

func pastPlace(x api.Past) place { return place{height: x.Height} }

func offencePlace(x api.Offence) place { return place{x.Height, x.Addr} }

func accountPlace(x api.Account) place { return place{addr: x.Addr} }

func releasePlace(x api.Release) place { return place{x.Height, x.Addr} }

func (p place) isAbove(ahead place) bool {
	return p.height > ahead.height || p.height == ahead.height && p.addr > ahead.addr
}

// isRising: each element is above the one ahead of it.
func isRising[T any](l []T, placeOf func(T) place) bool {
	for k := 1; k < len(l); k++ {
		if !placeOf(l[k]).isAbove(placeOf(l[k-1])) {
			return false
		}
	}
	return true
}

func layState(w *codec.Writer, x api.State) {
	w.Text(x.Chain)
	layParams(w, x.Params)
	w.Var(x.Height)
	w.Var(x.Time)
	w.Raw(x.Last[:])
	layCouncil(w, x.Council)
	layCouncil(w, x.Next)
	layList(w, x.Past, layPast)
	layList(w, x.Punished, layOffence)
	layLedger(w, x.Ledger)
}

func readState(r *codec.Reader) api.State {
	return api.State{
		Chain:    r.Text(api.MaxChain),
		Params:   readParams(r),
		Height:   r.Var(),
		Time:     r.Var(),
		Last:     readHash(r),
		Council:  readCouncil(r),
		Next:     readCouncil(r),
		Past:     readList(r, api.MaxAge, readPast),
		Punished: readList(r, mostInt, readOffence),
		Ledger:   readLedger(r),
	}
}

func layParams(w *codec.Writer, x api.Params) {
	w.Var(x.MinBond)
	w.Byte(byte(x.Seats))
	w.Var(x.Slash)
	w.Var(x.Period)
	w.Var(x.Age)
	w.Var(uint64(x.MaxTxs))
	w.Var(x.Propose)
	w.Var(x.Votes)
	w.Var(x.Pause)
	w.Var(x.Resend)
	w.Var(x.Trusting)
	w.Var(x.Drift)
}

func readParams(r *codec.Reader) api.Params {
	return api.Params{
		MinBond:  r.Var(),
		Seats:    int(r.Byte()),
		Slash:    r.Var(),
		Period:   r.Var(),
		Age:      r.Var(),
		MaxTxs:   readInt(r),
		Propose:  r.Var(),
		Votes:    r.Var(),
		Pause:    r.Var(),
		Resend:   r.Var(),
		Trusting: r.Var(),
		Drift:    r.Var(),
	}
}

func layCouncil(w *codec.Writer, x api.Council) { layList(w, x.Members, layMember) }

func readCouncil(r *codec.Reader) api.Council {
	return api.Council{Members: readList(r, api.MaxSeats, readMember)}
}

func layMember(w *codec.Writer, x api.Member) {
	w.Var(uint64(x.Addr))
	w.Var(x.Power)
	w.Var(unsigned(x.Priority))
}

func readMember(r *codec.Reader) api.Member {
	return api.Member{Addr: api.Addr(r.Var()), Power: r.Var(), Priority: signed(r.Var())}
}

// unsigned has the sign as its lowest bit, so that numbers near 0 have short forms on either side of it. (Below 0 the complement of 2p is -2p - 1, and it never wraps.)
func unsigned(p int64) uint64 {
	if p < 0 {
		return ^(uint64(p) << 1)
	}
	return uint64(p) << 1
}

func signed(v uint64) int64 {
	half := int64(v >> 1)
	if v&1 == 1 {
		return ^half
	}
	return half
}

func layPast(w *codec.Writer, x api.Past) {
	w.Var(x.Height)
	w.Var(x.Time)
	layCouncil(w, x.Council)
}

func readPast(r *codec.Reader) api.Past {
	return api.Past{Height: r.Var(), Time: r.Var(), Council: readCouncil(r)}
}

func layOffence(w *codec.Writer, x api.Offence) {
	w.Var(x.Height)
	w.Var(uint64(x.Addr))
}

func readOffence(r *codec.Reader) api.Offence {
	return api.Offence{Height: r.Var(), Addr: api.Addr(r.Var())}
}

func layLedger(w *codec.Writer, x api.Ledger) {
	layList(w, x.Accounts, layAccount)
	layList(w, x.Releases, layRelease)
	w.Var(x.Burnt)
	w.Var(x.Supply)
}

func readLedger(r *codec.Reader) api.Ledger {
	return api.Ledger{
		Accounts: readList(r, api.MaxAccounts, readAccount),
		Releases: readList(r, mostInt, readRelease),
		Burnt:    r.Var(),
		Supply:   r.Var(),
	}
}

func layAccount(w *codec.Writer, x api.Account) {
	w.Var(uint64(x.Addr))
	w.Var(x.Balance)
	w.Var(x.Bond)
	w.Var(x.Nonce)
	w.Bool(x.Jailed)
}

func readAccount(r *codec.Reader) api.Account {
	return api.Account{
		Addr:    api.Addr(r.Var()),
		Balance: r.Var(),
		Bond:    r.Var(),
		Nonce:   r.Var(),
		Jailed:  r.Bool(),
	}
}

func layRelease(w *codec.Writer, x api.Release) {
	w.Var(x.Height)
	w.Var(uint64(x.Addr))
	w.Var(x.Born)
	w.Var(x.Amount)
}

func readRelease(r *codec.Reader) api.Release {
	return api.Release{Height: r.Var(), Addr: api.Addr(r.Var()), Born: r.Var(), Amount: r.Var()}
}
