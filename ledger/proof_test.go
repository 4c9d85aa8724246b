package ledger_test

import (
	"encoding/hex"
	"math"
	"math/rand"
	"slices"
	"testing"

	"assent/api"
	"assent/digest"
	"assent/ledger"
)

func mustRoot(t *testing.T, l api.Ledger) api.Hash {
	t.Helper()
	h, e := ledger.Root(l)
	if e != api.OK {
		t.Fatalf("P8.9: Root of %v: error %d", l, e)
	}
	return h
}

func mustProve(t *testing.T, l api.Ledger, a api.Addr) api.Witness {
	t.Helper()
	w, e := ledger.Prove(l, a)
	if e != api.OK {
		t.Fatalf("P8.10: Prove of %d in %v: error %d", a, l, e)
	}
	return w
}

func wantHash(t *testing.T, what string, got api.Hash, want string) {
	t.Helper()
	if hex.EncodeToString(got[:]) != want {
		t.Errorf("%s: %x, want %s", what, got, want)
	}
}

// wantRead: Verify answers this account, or (the zero one) that there is none.
func wantRead(t *testing.T, what string, root api.Hash, a api.Addr, w api.Witness, want api.Account) {
	t.Helper()
	acc, there, e := ledger.Verify(root, a, w)
	if e != api.OK || acc != want || there != (want != api.Account{}) {
		t.Errorf("%s: Verify of %d: %v, %v, error %d, want %v", what, a, acc, there, e, want)
	}
}

func wantUnread(t *testing.T, what string, root api.Hash, a api.Addr, w api.Witness, want api.Errno) {
	t.Helper()
	acc, there, e := ledger.Verify(root, a, w)
	if e != want || acc != (api.Account{}) || there {
		t.Errorf("%s: Verify of %d: %v, %v, error %d, want error %d", what, a, acc, there, e, want)
	}
}

func copyOfWitness(w api.Witness) api.Witness {
	w.Accounts, w.Proofs = slices.Clone(w.Accounts), slices.Clone(w.Proofs)
	for k := range w.Proofs {
		w.Proofs[k].Aunts = slices.Clone(w.Proofs[k].Aunts)
	}
	return w
}

func TestExamplesOfProofs(t *testing.T) {
	l := first(t)
	root := mustRoot(t, l)
	wantHash(t, "P8.9, example", root, "c230f6ab399366222c5979d706c502e0b998b2799115d08cc2aae3c63fec6967")
	wantHash(t, "P8.9, example", mustRoot(t, mustNew(t)), "1bee65450f8ee5c11f795e7e5c3a393a59f51a6797081ace25dd6cae45d344f7")
	three, none := mustProve(t, l, 3), mustProve(t, l, 0)
	wantHash(t, "P8.10, example: the rest", three.Rest, "53bce8651f65a7b3614f8df08f1b345991b9aceb966901d0360920c0dc459ad4")
	if !slices.Equal(three.Accounts, l.Accounts[1:]) || len(three.Proofs) != 1 || three.Proofs[0].Index != 1 || three.Proofs[0].Total != 2 {
		t.Errorf("P8.10, example: Prove of 3: %v", three)
	}
	if !slices.Equal(none.Accounts, l.Accounts[:1]) || len(none.Proofs) != 1 || none.Proofs[0].Index != 0 || none.Proofs[0].Total != 2 {
		t.Errorf("P8.10, example: Prove of 0: %v", none)
	}
	wantUnread(t, "P8.11, example", root, 1, three, api.ErrProof)
	wantRead(t, "P8.17", root, 3, three, api.Account{})
	wantRead(t, "P8.17", root, 0, none, api.Account{})
	wantRead(t, "P8.17: the account itself, in a proof for another", root, 2, three, l.Accounts[1])
}

// wantWitness: Prove shows just what P8.10 lists, and Verify reads it.
func wantWitness(t *testing.T, l api.Ledger, root api.Hash, a api.Addr) {
	t.Helper()
	w := mustProve(t, l, a)
	var places []int
	below, above := -1, -1
	for k, acc := range l.Accounts {
		switch {
		case acc.Addr == a:
			places = []int{k}
		case acc.Addr < a:
			below = k
		case above < 0:
			above = k
		}
	}
	if places == nil {
		for _, k := range []int{below, above} {
			if k >= 0 {
				places = append(places, k)
			}
		}
	}
	if w.Rest != modelRest(l) || len(w.Accounts) != len(places) || len(w.Proofs) != len(places) {
		t.Fatalf("P8.10: Prove of %d in %v: %v", a, l, w)
	}
	for k, at := range places {
		q, _ := digest.Prove(modelForms(l), at)
		if w.Accounts[k] != l.Accounts[at] || w.Proofs[k].Total != q.Total || w.Proofs[k].Index != q.Index || !slices.Equal(w.Proofs[k].Aunts, q.Aunts) {
			t.Fatalf("P8.10: Prove of %d in %v: %v", a, l, w)
		}
	}
	want, _ := ledger.Find(l, a)
	wantRead(t, "P8.17", root, a, w, want)
}

// TestProofsOfAnything holds Root and Prove against the model, and lets Verify read what Prove shows.
func TestProofsOfAnything(t *testing.T) {
	r := rand.New(rand.NewSource(87))
	for range 400 {
		l := someSound(r)
		root := mustRoot(t, l)
		if root != modelRoot(l) {
			t.Fatalf("P8.9: Root of %v: %x", l, root)
		}
		for a := range api.Addr(15) {
			wantWitness(t, l, root, a)
		}
		wantWitness(t, l, root, math.MaxUint64)
		wantWitness(t, l, root, math.MaxUint64-1)
	}
}

func TestRootBinds(t *testing.T) {
	l := closed(api.Ledger{
		Accounts: []api.Account{{Addr: 2, Balance: 1, Bond: 2, Nonce: 3}, {Addr: 4, Balance: 5}},
		Releases: []api.Release{{Height: 9, Addr: 2, Born: 3, Amount: 6}, {Height: 9, Addr: 4, Born: 3, Amount: 7}},
		Burnt:    8,
	})
	seen := map[api.Hash]string{mustRoot(t, l): "itself"}
	for what, change := range map[string]func(*api.Ledger){
		"an address":     func(l *api.Ledger) { l.Accounts[1].Addr, l.Releases[1].Addr = 5, 5 },
		"balance, bond":  func(l *api.Ledger) { l.Accounts[0].Balance, l.Accounts[0].Bond = 2, 1 },
		"a nonce":        func(l *api.Ledger) { l.Accounts[0].Nonce++ },
		"jail":           func(l *api.Ledger) { l.Accounts[1].Jailed = true },
		"another's jail": func(l *api.Ledger) { l.Accounts[0].Jailed = true },
		"a balance":      func(l *api.Ledger) { l.Accounts[1].Balance++; l.Accounts[0].Balance-- },
		"an account":     func(l *api.Ledger) { l.Accounts = append(l.Accounts, api.Account{Addr: 9}) },
		"a height":       func(l *api.Ledger) { l.Releases[1].Height++ },
		"a row's birth":  func(l *api.Ledger) { l.Releases[1].Born++ },
		"row amounts":    func(l *api.Ledger) { l.Releases[0].Amount, l.Releases[1].Amount = 7, 6 },
		"whose rows": func(l *api.Ledger) {
			l.Releases[0].Addr, l.Releases[1] = 4, api.Release{Height: 10, Addr: 2, Born: 3, Amount: 7}
		},
		"a row less":     func(l *api.Ledger) { l.Releases = l.Releases[:1]; l.Accounts[0].Balance += 7 },
		"what was burnt": func(l *api.Ledger) { l.Burnt--; l.Accounts[0].Bond++ },
		"the supply":     func(l *api.Ledger) { l.Burnt++; l.Supply++ },
	} {
		m := copyOf(l)
		change(&m)
		root := mustRoot(t, m)
		if seen[root] != "" {
			t.Errorf("P8.9: %s and %s have one root", what, seen[root])
		}
		seen[root] = what
	}
}

// TestRootAndProveRefuse: both answer what Sound refuses, of every ledger.
func TestRootAndProveRefuse(t *testing.T) {
	r := rand.New(rand.NewSource(88))
	refused := 0
	for range 5000 {
		l := someSound(r)
		spoilOne(r, &l)
		want := modelSound(l)
		h, e := ledger.Root(l)
		if e != want || e != api.OK && h != (api.Hash{}) {
			t.Fatalf("P8.9: Root of %v: %x, error %d, want %d", l, h, e, want)
		}
		w, e := ledger.Prove(l, api.Addr(r.Intn(14)))
		if e != want || e != api.OK && (w.Rest != (api.Hash{}) || len(w.Accounts)+len(w.Proofs) > 0) {
			t.Fatalf("P8.10: Prove of %v: %v, error %d, want %d", l, w, e, want)
		}
		if want != api.OK {
			refused++
		}
	}
	if refused < 1000 {
		t.Errorf("only %d were not sound", refused)
	}
	for _, c := range wrongAccounts {
		_, e := ledger.Root(api.Ledger{Accounts: c.list})
		wantErr(t, "P8.9: Root of "+c.what, e, c.want)
		_, e = ledger.Prove(api.Ledger{Accounts: c.list}, 1)
		wantErr(t, "P8.10: Prove of "+c.what, e, c.want)
	}
}

func TestProofsOfAFullLedger(t *testing.T) {
	l := closed(api.Ledger{Accounts: many(65536, 3), Releases: manyRows(65536, 9)})
	root := mustRoot(t, l)
	if root != modelRoot(l) {
		t.Errorf("P8.9: Root of 65536 accounts: %x", root)
	}
	for _, a := range []api.Addr{0, 1, 40000, 65536, 65537} {
		wantWitness(t, l, root, a)
	}
}

// odd is a ledger of the accounts 2, 4, 6, 8, 10.
func odd(t *testing.T) api.Ledger {
	t.Helper()
	list := many(5, 7)
	for k := range list {
		list[k].Addr *= 2
	}
	return mustNew(t, list...)
}

// shown is a witness with the accounts of these places, each with its proof.
func shown(l api.Ledger, places ...int) api.Witness {
	w := api.Witness{Rest: modelRest(l)}
	for _, at := range places {
		q, _ := digest.Prove(modelForms(l), at)
		w.Accounts, w.Proofs = append(w.Accounts, l.Accounts[at]), append(w.Proofs, q)
	}
	return w
}

// changed is a witness in which something is changed.
func changed(w api.Witness, change func(*api.Witness)) api.Witness {
	w = copyOfWitness(w)
	change(&w)
	return w
}

func otherRest(w *api.Witness) { w.Rest[5] ^= 1 }

func TestVerifyLooksInOrder(t *testing.T) {
	l := odd(t)
	root, empty := mustRoot(t, l), mustRoot(t, api.Ledger{})
	none := api.Witness{Rest: modelRest(api.Ledger{})}
	wantRead(t, "P8.11, 2", empty, 7, none, api.Account{})
	wantRead(t, "P8.11, 2: of 0", empty, 0, none, api.Account{})
	wantUnread(t, "P8.11, 2: another rest", empty, 7, changed(none, otherRest), api.ErrRoot)
	wantUnread(t, "P8.11, 2: another root", root, 7, none, api.ErrRoot)
	wantUnread(t, "P8.11, 2: the rest of this root", root, 7, shown(l), api.ErrRoot)
	wantUnread(t, "P8.11, 2: nothing at all", api.Hash{}, 0, api.Witness{}, api.ErrRoot)
	for what, w := range map[string]api.Witness{
		"three accounts":        shown(l, 0, 1, 2),
		"many accounts":         {Accounts: many(1000, 1), Proofs: make([]api.Proof, 1000)},
		"a proof less":          changed(shown(l, 0), func(w *api.Witness) { w.Proofs = nil }),
		"a proof more":          changed(shown(l, 0), func(w *api.Witness) { w.Proofs = append(w.Proofs, w.Proofs[0]) }),
		"a proof of no account": changed(shown(l, 0), func(w *api.Witness) { w.Accounts = nil }),
		"two, a proof less":     changed(shown(l, 0, 1), func(w *api.Witness) { w.Proofs = w.Proofs[:1] }),
		"two, a proof more":     changed(shown(l, 0, 1), func(w *api.Witness) { w.Proofs = append(w.Proofs, w.Proofs[0]) }),
	} {
		for a := range api.Addr(12) {
			wantUnread(t, "P8.11, 1: "+what, root, a, w, api.ErrProof)
			wantUnread(t, "P8.11, 1: "+what, empty, a, w, api.ErrProof)
		}
	}
	for k, acc := range l.Accounts {
		w := shown(l, k)
		wantRead(t, "P8.11, 3", root, acc.Addr, w, acc)
		wantUnread(t, "P8.11, 3: another rest", root, acc.Addr, changed(w, otherRest), api.ErrRoot)
		wantUnread(t, "P8.11, 3: another root", empty, acc.Addr, w, api.ErrRoot)
		wantUnread(t, "P8.11, 3: another account", root, acc.Addr, changed(w, func(w *api.Witness) { w.Accounts[0].Nonce++ }), api.ErrRoot)
		wantUnread(t, "P8.11, 3: an aunt more, and another rest", root, acc.Addr, changed(w, func(w *api.Witness) {
			w.Proofs[0].Aunts = append(w.Proofs[0].Aunts, api.Hash{})
			otherRest(w)
		}), api.ErrProof)
		for _, a := range []api.Addr{acc.Addr - 1, acc.Addr - 2} {
			if k == 0 {
				wantRead(t, "P8.11, 3: ahead of the first", root, a, w, api.Account{})
				wantUnread(t, "P8.11, 3: ahead of the first, another rest", root, a, changed(w, otherRest), api.ErrRoot)
			} else {
				wantUnread(t, "P8.11, 3: not the first", root, a, w, api.ErrProof)
				wantUnread(t, "P8.11, 3: not the first, another rest", root, a, changed(w, otherRest), api.ErrProof)
			}
		}
		for _, a := range []api.Addr{acc.Addr + 1, acc.Addr + 2, math.MaxUint64} {
			if k == 4 {
				wantRead(t, "P8.11, 3: behind the last", root, a, w, api.Account{})
				wantUnread(t, "P8.11, 3: behind the last, another rest", root, a, changed(w, otherRest), api.ErrRoot)
			} else {
				wantUnread(t, "P8.11, 3: not the last", root, a, w, api.ErrProof)
				wantUnread(t, "P8.11, 3: not the last, another rest", root, a, changed(w, otherRest), api.ErrProof)
			}
		}
	}
}

func TestVerifyOfTwoLooksInOrder(t *testing.T) {
	l := odd(t)
	root := mustRoot(t, l)
	w := shown(l, 1, 2) // the accounts 4 and 6
	wantRead(t, "P8.11, 4", root, 5, w, api.Account{})
	for _, a := range []api.Addr{0, 1, 3, 4, 6, 7, 11, math.MaxUint64} {
		wantUnread(t, "P8.11, 4: not between", root, a, w, api.ErrProof)
	}
	wantUnread(t, "P8.11, 4: turned round", root, 5, shown(l, 2, 1), api.ErrProof)
	wantUnread(t, "P8.11, 4: twice the same", root, 4, shown(l, 1, 1), api.ErrProof)
	wantUnread(t, "P8.11, 4: not side by side", root, 5, shown(l, 1, 3), api.ErrProof)
	wantUnread(t, "P8.11, 4: not side by side, one left out", root, 6, shown(l, 1, 3), api.ErrProof)
	for _, c := range []struct {
		what   string
		change func(*api.Witness)
		want   api.Errno
	}{
		{"unlike totals", func(w *api.Witness) { w.Proofs[1].Total = 6 }, api.ErrProof},
		{"unlike totals, and another rest", func(w *api.Witness) { w.Proofs[1].Total = 6; otherRest(w) }, api.ErrProof},
		{"other places, and another rest", func(w *api.Witness) { w.Proofs[1].Index = 3; otherRest(w) }, api.ErrProof},
		{"another rest", otherRest, api.ErrRoot},
		{"another first", func(w *api.Witness) { w.Accounts[0].Balance++ }, api.ErrRoot},
		{"another second", func(w *api.Witness) { w.Accounts[1].Balance++ }, api.ErrRoot},
		{"an aunt of the first more, and another rest", func(w *api.Witness) {
			w.Proofs[0].Aunts = append(w.Proofs[0].Aunts, api.Hash{})
			otherRest(w)
		}, api.ErrProof},
		{"an aunt of the second more", func(w *api.Witness) { w.Proofs[1].Aunts = append(w.Proofs[1].Aunts, api.Hash{}) }, api.ErrProof},
		{"an aunt of the second more, and another rest", func(w *api.Witness) {
			w.Proofs[1].Aunts = append(w.Proofs[1].Aunts, api.Hash{})
			otherRest(w)
		}, api.ErrRoot},
		{"an aunt of the second turned", func(w *api.Witness) { w.Proofs[1].Aunts[0][0]++ }, api.ErrRoot},
		{"both of another total", func(w *api.Witness) { w.Proofs[0].Total, w.Proofs[1].Total = 6, 6 }, api.ErrRoot},
		{"both beyond the end", func(w *api.Witness) { w.Proofs[0].Index, w.Proofs[1].Index = 5, 6 }, api.ErrProof},
		{"the second beyond the end", func(w *api.Witness) { w.Proofs[0].Index, w.Proofs[1].Index = 4, 5 }, api.ErrProof},
		{"places that wrap", func(w *api.Witness) { w.Proofs[0].Index, w.Proofs[1].Index = math.MaxInt, math.MinInt }, api.ErrProof},
		{"places below 0", func(w *api.Witness) { w.Proofs[0].Index, w.Proofs[1].Index = -1, 0 }, api.ErrProof},
		{"totals of 0", func(w *api.Witness) { w.Proofs[0].Total, w.Proofs[1].Total = 0, 0 }, api.ErrProof},
		{"the least totals", func(w *api.Witness) { w.Proofs[0].Total, w.Proofs[1].Total = math.MinInt, math.MinInt }, api.ErrProof},
	} {
		wantUnread(t, "P8.11, 4: "+c.what, root, 5, changed(w, c.change), c.want)
	}
}

// TestOddNumbersOfProofs: of one account, numbers at the edges.
func TestOddNumbersOfProofs(t *testing.T) {
	l := odd(t)
	root := mustRoot(t, l)
	for _, total := range []int{math.MinInt, -1, 0, 65537, math.MaxInt} {
		for _, index := range []int{math.MinInt, -1, 0, 1, 65536, math.MaxInt - 1, math.MaxInt} {
			for _, a := range []api.Addr{0, 1, 2, 3, math.MaxUint64} {
				w := changed(shown(l, 0), func(w *api.Witness) { w.Proofs[0].Total, w.Proofs[0].Index = total, index })
				wantUnread(t, "P8.11, 3: odd numbers", root, a, w, api.ErrProof)
			}
		}
	}
}

// TestNothingElseIsRead: whatever is put together of a ledger's accounts and proofs, and of another's, Verify reads nothing of it but what is so.
func TestNothingElseIsRead(t *testing.T) {
	for n := range 6 {
		l := odd(t)
		l = mustNew(t, l.Accounts[:n]...)
		other := mustNew(t, append(slices.Clone(l.Accounts), api.Account{Addr: 11, Balance: 1})...)
		root := mustRoot(t, l)
		var accounts []api.Account
		var proofs []api.Proof
		for k := range n {
			accounts = append(accounts, l.Accounts[k])
			for _, from := range []api.Ledger{l, other} {
				proofs = append(proofs, shown(from, k).Proofs[0])
			}
		}
		accounts = append(accounts, api.Account{}, api.Account{Addr: 3}, api.Account{Addr: 11, Balance: 1})
		proofs = append(proofs, shown(other, n).Proofs[0], api.Proof{Total: 1})
		read := 0
		try := func(w api.Witness) {
			for a := range api.Addr(14) {
				acc, there, e := ledger.Verify(root, a, w)
				want, wrong := ledger.Find(l, a)
				if e == api.OK && (acc != want || there != (wrong == api.OK)) {
					t.Fatalf("P8.17, W8: %v: Verify of %d by %v: %v, %v", l, a, w, acc, there)
				}
				if e == api.OK {
					read++
				}
			}
		}
		for _, rest := range []api.Hash{modelRest(l), modelRest(other), {}} {
			try(api.Witness{Rest: rest})
			for _, x := range accounts {
				for _, q := range proofs {
					try(api.Witness{Rest: rest, Accounts: []api.Account{x}, Proofs: []api.Proof{q}})
				}
			}
		}
		for _, x := range accounts {
			for _, q := range proofs {
				for _, y := range accounts {
					for _, s := range proofs {
						if q.Total == s.Total && s.Index == q.Index+1 {
							try(api.Witness{Rest: modelRest(l), Accounts: []api.Account{x, y}, Proofs: []api.Proof{q, s}})
						}
					}
				}
			}
		}
		if read < 14 {
			t.Errorf("P8.17: of %d accounts only %d things were read", n, read)
		}
	}
}
