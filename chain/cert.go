package chain

import (
	"cmp"
	"slices"
	"sync"

	"assent/api"
	"assent/council"
	"assent/seal"
	"assent/wire"
)

// Median is the time that a certificate gives to the next block.
func Median(c api.Council, x api.Cert) (uint64, api.Errno) {
	if e := council.Sound(c); e != api.OK {
		return 0, e
	}
	if e := wire.PlainCert(x); e != api.OK {
		return 0, e
	}
	if len(x.Marks) == 0 {
		return 0, api.ErrCert
	}
	if !isSeated(c, x.Marks) {
		return 0, api.ErrMember
	}
	marks := copied(x.Marks)
	slices.SortFunc(marks, func(a, b api.Mark) int { return cmp.Compare(a.Time, b.Time) })
	all := powerOf(c, marks)
	var time, sofar uint64
	for k := 0; 2*sofar <= all; k++ {
		time = marks[k].Time
		sofar += c.Members[marks[k].Index].Power
	}
	return time, api.OK
}

// CheckCert looks at a certificate by the council of its height.
func CheckCert(c api.Council, r *seal.Registry, chain string, x api.Cert) api.Errno {
	if !isRegistry(r) {
		return api.ErrNil
	}
	if e := council.Sound(c); e != api.OK {
		return e
	}
	if e := wire.PlainCert(x); e != api.OK {
		return e
	}
	if x.Height == 0 || x.Id == (api.Hash{}) {
		return api.ErrCert
	}
	if !isSeated(c, x.Marks) {
		return api.ErrMember
	}
	if e := checkSeals(c, r, chain, x); e != api.OK {
		return e
	}
	return unless(powerOf(c, x.Marks) >= council.Quorum(c), api.ErrQuorum)
}

// isSeated: has each mark of a plain certificate a member?
func isSeated(c api.Council, marks []api.Mark) bool {
	for _, m := range marks {
		if m.Index >= len(c.Members) {
			return false
		}
	}
	return true
}

// powerOf is what the members of marks have together. As no member has two marks, it is no more than the council's total, and can't wrap.
func powerOf(c api.Council, marks []api.Mark) (sum uint64) {
	for _, m := range marks {
		sum += c.Members[m.Index].Power
	}
	return sum
}

// checkSeals looks at all seals at one time, and tells what is wrong with the first mark of which something is, whichever was looked at first.
func checkSeals(c api.Council, r *seal.Registry, chain string, x api.Cert) api.Errno {
	refusals := make([]api.Errno, len(x.Marks))
	var lookers sync.WaitGroup
	for k, m := range x.Marks {
		lookers.Add(1)
		go func() {
			defer lookers.Done()
			refusals[k] = checkSeal(r, chain, voteOf(c, x, m), m.Seal)
		}()
	}
	lookers.Wait()
	for _, e := range refusals {
		if e != api.OK {
			return e
		}
	}
	return api.OK
}

// voteOf is the precommit that a mark stands for.
func voteOf(c api.Council, x api.Cert, m api.Mark) api.Vote {
	return api.Vote{Kind: api.Precommit, Height: x.Height, Round: x.Round, Id: x.Id, Time: m.Time, From: c.Members[m.Index].Addr}
}

func checkSeal(r *seal.Registry, chain string, v api.Vote, s api.Seal) api.Errno {
	msg, e := wire.VoteBytes(chain, v)
	if e != api.OK {
		return e
	}
	return unless(r.Check(v.From, msg, s), api.ErrSeal)
}

func isZeroCert(x api.Cert) bool {
	return x.Height == 0 && x.Round == 0 && x.Id == (api.Hash{}) && len(x.Marks) == 0
}

// checkAhead looks at the certificate of the block ahead, behind a sound state.
func checkAhead(st api.State, r *seal.Registry, last api.Cert) api.Errno {
	if st.Height == 0 {
		return unless(isZeroCert(last), api.ErrCert)
	}
	if last.Height != st.Height || last.Id != st.Last {
		return api.ErrCert
	}
	return CheckCert(councilAhead(st), r, st.Chain, last)
}

// dueTime is the next block's time, behind a sound state; false, if none is due.
func dueTime(st api.State, last api.Cert) (uint64, bool) {
	if st.Height == 0 {
		return st.Time, true
	}
	time, e := Median(councilAhead(st), last)
	return time, e == api.OK && time > st.Time
}
