package chain

import (
	"cmp"

	"assent/api"
	"assent/council"
	"assent/ledger"
)

// wholeSlash is a bond's all, in the thousandths that a Slash is told in.
const wholeSlash = 1000

func isName(chain string) bool { return len(chain) >= 1 && len(chain) <= api.MaxChain }

func within[T cmp.Ordered](least, n, most T) bool { return least <= n && n <= most }

// isFit: can a chain have these parameters?
func isFit(p api.Params) bool {
	return within(1, p.MinBond, api.MaxSupply) &&
		within(1, p.Seats, api.MaxSeats) &&
		p.Slash <= wholeSlash &&
		within(1, p.Age, api.MaxAge) && // ahead of what is reckoned with it, so that no sum wraps
		within(p.Age+3, p.Period, api.MaxHeights) &&
		within(0, p.MaxTxs, api.MaxTxs) &&
		within(1, p.Propose, api.MaxTicks) &&
		within(1, p.Votes, api.MaxTicks) &&
		within(1, p.Resend, api.MaxTicks) &&
		within(1, p.Trusting, api.MaxTicks) &&
		p.Pause <= api.MaxTicks &&
		p.Drift <= api.MaxTicks
}

// isSound: can a chain come to such a state, as far as that is to be seen?
func isSound(st api.State) bool {
	atBeginning := st.Height == 0
	hasNoLast := st.Last == api.Hash{}
	return isName(st.Chain) && isFit(st.Params) &&
		st.Height <= api.MaxHeight && st.Time <= api.MaxTime && atBeginning == hasNoLast &&
		council.Sound(st.Council) == api.OK && council.Sound(st.Next) == api.OK &&
		ledger.Sound(st.Ledger) == api.OK &&
		isPastSound(st) && isPunishedSound(st)
}

// isPastSound is asked behind isFit: the age of evidence is small.
func isPastSound(st api.State) bool {
	count := min(st.Height, st.Params.Age)
	if uint64(len(st.Past)) != count {
		return false
	}
	for k, p := range st.Past {
		if p.Height != st.Height-count+1+uint64(k) || p.Time > api.MaxTime || council.Sound(p.Council) != api.OK {
			return false
		}
	}
	return true
}

// isPunishedSound is asked behind isPastSound: the heights of Past follow one another.
func isPunishedSound(st api.State) bool {
	if len(st.Past) == 0 {
		return len(st.Punished) == 0
	}
	ahead := api.Offence{Height: st.Past[0].Height} // ahead of all offences that may stand there, for nobody is 0
	for _, o := range st.Punished {
		if o.Addr == 0 || o.Height > st.Height || byHeight(o, ahead) <= 0 {
			return false
		}
		ahead = o
	}
	return true
}

// byHeight is the order of offences: by Height, then Addr.
func byHeight(x, y api.Offence) int {
	return cmp.Or(cmp.Compare(x.Height, y.Height), cmp.Compare(x.Addr, y.Addr))
}

// councilAhead is who decided the block ahead, of a sound state that has one.
func councilAhead(st api.State) api.Council { return st.Past[len(st.Past)-1].Council }
