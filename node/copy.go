package node

import "assent/api"

// copyState is the state with lists of its own.
func copyState(st api.State) api.State {
	st.Council, st.Next = copyCouncil(st.Council), copyCouncil(st.Next)
	st.Past = copied(st.Past)
	for k := range st.Past {
		st.Past[k].Council = copyCouncil(st.Past[k].Council)
	}
	st.Punished = copied(st.Punished)
	st.Ledger.Accounts, st.Ledger.Releases = copied(st.Ledger.Accounts), copied(st.Ledger.Releases)
	return st
}

func copyCouncil(c api.Council) api.Council { return api.Council{Members: copied(c.Members)} }

// copied is the list in memory of its own; an empty one is nil.
func copied[T any](list []T) []T { return append([]T(nil), list...) }
