package client_test

import (
	"fmt"
	"math"
	"testing"

	"assent/api"
	"assent/client"
	"assent/ledger"
	"assent/light"
	"assent/seal"
)

// TestExamples is the chapter's list.
func TestExamples(t *testing.T) {
	w := examples(t)
	s := w.honest()
	c := w.client(1, 15)
	is(t, "example 1", c.Follow(s, 3, 30), api.OK)
	s.wantAsked(t, "example 1", "light 3")
	if c.Latest() != 3 {
		t.Errorf("example 1: the latest is %d", c.Latest())
	}
	wantAccount(t, "example 1", c, s, 2, 3, api.Account{Addr: 3, Balance: 30})
	wantNoAccount(t, "example 1: the header of 2 is not trusted", c, s, 1, 3, api.ErrNone)
	wantAccount(t, "example 1: nobody", c, s, 2, 9, api.Account{})
	wantNoAccount(t, "example 1: the header of 4 is not trusted", c, s, 3, 3, api.ErrNone)

	liar := w.honest()
	liar.account = func(height uint64, a api.Addr) (api.Witness, api.Errno) { return w.witnessOf(height, 1) }
	wantNoAccount(t, "example 2: the witness of 1", c, liar, 2, 3, api.ErrLie)
	liar.account = func(height uint64, a api.Addr) (api.Witness, api.Errno) {
		x, e := w.witnessOf(height, a)
		x.Accounts[0].Balance = 31
		return x, e
	}
	wantNoAccount(t, "example 2: a balance of 31", c, liar, 2, 3, api.ErrLie)
	liar.account = func(uint64, api.Addr) (api.Witness, api.Errno) { return api.Witness{}, api.ErrNobody }
	wantNoAccount(t, "example 2: refused", c, liar, 2, 3, api.ErrNobody)

	wantNoTx(t, "example 3: there is none", c, s, 3, 0, api.ErrNone)
	wantNoTx(t, "example 3", c, s, 3, -1, api.ErrArg)
	wantNoTx(t, "example 3", c, s, 3, 1000, api.ErrArg)
	is(t, "example 3", c.Follow(s, 2, 30), api.OK)
	liar.tx = func(height uint64, at int) (api.Tx, api.Proof, api.Errno) { return w.txOf(height, 1-at) }
	wantNoTx(t, "example 3: another place", c, liar, 2, 0, api.ErrLie)
	wantNoTx(t, "example 3: another place", c, liar, 2, 1, api.ErrLie)
	wantTx(t, "S4", c, s, 2, 0, w.txs[2][0])
	wantTx(t, "S4", c, s, 2, 1, w.txs[2][1])

	is(t, "example 4", c.Follow(nil, 3, 30), api.ErrNil)
	s.asked = nil
	is(t, "example 4: once more", c.Follow(s, 3, 30), api.OK)
	s.wantAsked(t, "example 4: once more")
}

// TestNew: S1 is light.New of the same arguments.
func TestNew(t *testing.T) {
	w := examples(t)
	for _, x := range []struct {
		what  string
		p     api.Params
		name  string
		r     *seal.Registry
		first api.LightBlock
		now   uint64
		want  api.Errno
	}{
		{"the first", params, name, w.r, w.chain[1], 15, api.OK},
		{"another one", params, name, w.r, w.chain[7], 70, api.OK},
		{"no book, ahead of all else", api.Params{Drift: math.MaxUint64}, "d", nil, api.LightBlock{}, math.MaxUint64, api.ErrNil},
		{"a book that is none", params, name, &seal.Registry{}, w.chain[1], 15, api.ErrNil},
		{"a late clock", params, "d", w.r, api.LightBlock{}, api.MaxTime + 1, api.ErrArg},
		{"a long trust", api.Params{Trusting: api.MaxTicks + 1}, name, w.r, w.chain[1], 15, api.ErrArg},
		{"a long drift", api.Params{Drift: api.MaxTicks + 1}, name, w.r, w.chain[1], 15, api.ErrArg},
		{"the longest", api.Params{Trusting: api.MaxTicks, Drift: api.MaxTicks}, name, w.r, w.chain[1], 0, api.OK},
		{"another chain's", params, "d", w.r, w.chain[1], 15, api.ErrChain},
		{"nothing", params, "", w.r, api.LightBlock{}, 15, api.ErrField},
		{"a council that is not the header's", params, name, w.r, api.LightBlock{Header: w.chain[1].Header, Cert: w.chain[1].Cert, Council: seats(1, 2)}, 15, api.ErrSeats},
		{"another block's certificate", params, name, w.r, api.LightBlock{Header: w.chain[1].Header, Cert: w.chain[2].Cert, Council: seats(1, 2, 3)}, 15, api.ErrCert},
		{"a book in which nobody has signed", params, name, seal.New(), w.chain[1], 15, api.ErrSeal},
		{"signed by too few", params, name, w.r, w.signed(w.chain[1].Header, seats(1, 2, 3), 1, 2), 15, api.ErrQuorum},
		{"just not expired", params, name, w.r, w.chain[1], 109, api.OK},
		{"expired", params, name, w.r, w.chain[1], 110, api.ErrOld},
		{"just not ahead", params, name, w.r, w.chain[1], 5, api.OK},
		{"ahead", params, name, w.r, w.chain[1], 4, api.ErrAhead},
	} {
		c, e := client.New(x.p, x.name, x.r, x.first, x.now)
		is(t, "S1: "+x.what, e, x.want)
		_, e = light.New(x.p, x.name, x.r, x.first, x.now)
		is(t, "S1: light.New: "+x.what, e, x.want)
		if (c == nil) != (x.want != api.OK) {
			t.Errorf("S1: %s: a client: %v", x.what, c != nil)
		}
		if c != nil {
			w.wantTrusted("S1: "+x.what, c, x.first.Header.Height)
		}
	}
}

// TestFollow: S2 is light's Update, step by step on one client.
func TestFollow(t *testing.T) {
	w := examples(t)
	refuses := w.honest()
	refuses.light = func(uint64) (api.LightBlock, api.Errno) { return w.chain[4], api.ErrFault }
	other := w.honest()
	other.light = func(uint64) (api.LightBlock, api.Errno) { return w.chain[8], api.OK }
	s := w.honest()
	c := w.client(3, 28)
	for _, x := range []struct {
		what        string
		src         *source
		height, now uint64
		want        api.Errno
		trusted     []uint64
		asked       []string
	}{
		{"height 0", s, 0, 50, api.ErrArg, []uint64{3}, nil},
		{"a height above the limit", s, api.MaxHeight + 1, 50, api.ErrArg, []uint64{3}, nil},
		{"a clock above the limit", s, 4, api.MaxTime + 1, api.ErrArg, []uint64{3}, nil},
		{"ahead: the clock is still New's", s, 4, 30, api.ErrAhead, []uint64{3}, []string{"light 4"}},
		{"below the least", s, 2, 30, api.ErrHeight, []uint64{3}, nil},
		{"what is trusted is not asked for", s, 3, 30, api.OK, []uint64{3}, nil},
		{"what there is none of", s, 12, 30, api.ErrNone, []uint64{3}, []string{"light 12"}},
		{"the greatest height", s, api.MaxHeight, 30, api.ErrNone, []uint64{3}, []string{"light 1099511627776"}},
		{"refused, a good block beside, and the clock has been set", refuses, 4, 40, api.ErrFault, []uint64{3}, []string{"light 4"}},
		{"another height", other, 4, 0, api.ErrHeight, []uint64{3}, []string{"light 4"}},
		{"the clock does not go back", s, 4, 0, api.OK, []uint64{3, 4}, []string{"light 4"}},
		{"by way of others", s, 7, 70, api.OK, []uint64{3, 4, 5, 7}, []string{"light 7", "light 5"}},
		{"between", s, 6, 0, api.OK, []uint64{3, 4, 5, 6, 7}, []string{"light 6"}},
		{"expired", s, 9, 170, api.ErrOld, []uint64{3, 4, 5, 6, 7}, []string{"light 9"}},
		{"trusted, though expired", s, 7, 170, api.OK, []uint64{3, 4, 5, 6, 7}, nil},
	} {
		is(t, "S2: "+x.what, c.Follow(x.src, x.height, x.now), x.want)
		x.src.wantAsked(t, "S2: "+x.what, x.asked...)
		w.wantTrusted("S2: "+x.what, c, x.trusted...)
	}
}

// TestFollowNobody: ErrNil is ahead of all else, and leaves the clock.
func TestFollowNobody(t *testing.T) {
	w := examples(t)
	s := w.honest()
	c := w.client(3, 28)
	for _, height := range []uint64{0, 3, 4, math.MaxUint64} {
		for _, now := range []uint64{0, 40, 200, math.MaxUint64} {
			is(t, "S2: nobody", c.Follow(nil, height, now), api.ErrNil)
		}
	}
	is(t, "S2: the clock", c.Follow(s, 4, 34), api.ErrAhead)
	is(t, "S2: the clock", c.Follow(s, 4, 35), api.OK)
	w.wantTrusted("S2", c, 3, 4)
}

// TestRefusedFollow: whatever is wrong on the way, nothing comes to be trusted, and another source may be followed to the same height.
func TestRefusedFollow(t *testing.T) {
	w := examples(t)
	forged := w.chain[3].Header
	forged.State[0]++
	for _, x := range []struct {
		what  string
		at    uint64
		given api.LightBlock
		e     api.Errno
		want  api.Errno
	}{
		{"9 is refused", 9, api.LightBlock{}, api.ErrNone, api.ErrNone},
		{"5 is refused", 5, w.chain[5], api.ErrSource, api.ErrSource},
		{"4 is refused with what light goes on by", 4, w.chain[4], api.ErrTrust, api.ErrTrust},
		{"4 is refused with a number of nobody's", 4, w.chain[4], -7, -7},
		{"of 3 another height is given", 3, w.chain[2], api.OK, api.ErrHeight},
		{"of 3 nothing is given", 3, api.LightBlock{}, api.OK, api.ErrHeight},
		{"of 3 another block is given, signed by too few", 3, w.signed(forged, seats(1, 2, 3), 1, 2), api.OK, api.ErrQuorum},
		{"of 3 another block is given, with the chain's certificate", 3, api.LightBlock{Header: forged, Cert: w.chain[3].Cert, Council: w.chain[3].Council}, api.OK, api.ErrCert},
	} {
		liar := w.honest()
		liar.light = func(height uint64) (api.LightBlock, api.Errno) {
			if height == x.at {
				return x.given, x.e
			}
			return w.lightOf(height)
		}
		c := w.client(1, 15)
		is(t, "S2: "+x.what, c.Follow(liar, 9, 90), x.want)
		w.wantTrusted("P19.4: "+x.what, c, 1)
		s := w.honest()
		is(t, "P19.4: "+x.what, c.Follow(s, 9, 90), api.OK)
		s.wantAsked(t, "P19.4: "+x.what, "light 9", "light 5", "light 3", "light 4")
		w.wantTrusted("P19.4: "+x.what, c, 1, 3, 4, 5, 9)
	}
}

// TestLatest: S5.
func TestLatest(t *testing.T) {
	w := examples(t)
	c := w.client(2, 30)
	for _, x := range []struct{ height, want uint64 }{{2, 2}, {4, 4}, {3, 4}, {1, 4}, {12, 4}, {9, 9}, {8, 9}} {
		c.Follow(w.honest(), x.height, 90)
		if got := c.Latest(); got != x.want {
			t.Errorf("S5: %d: the latest is %d, want %d", x.height, got, x.want)
		}
	}
}

// TestAccountOrder: which of several refusals of S3 is answered, and what is asked by then.
func TestAccountOrder(t *testing.T) {
	w := examples(t)
	c := w.follower(30, 3)
	lies := w.honest()
	lies.account = func(uint64, api.Addr) (api.Witness, api.Errno) { return api.Witness{}, api.OK }
	refuses := w.honest()
	refuses.account = func(uint64, api.Addr) (api.Witness, api.Errno) { return api.Witness{}, api.ErrSpoilt }
	for _, h := range []uint64{0, 2, 5, math.MaxUint64} {
		wantNoAccount(t, "S3: nobody is asked", c, nil, h, 3, api.ErrNil)
	}
	for _, h := range []uint64{1, 3, 4, 8, 9, api.MaxHeight - 1, api.MaxHeight, api.MaxHeight + 1, math.MaxUint64 - 1, math.MaxUint64} {
		for _, s := range []*source{w.honest(), lies, refuses} {
			wantNoAccount(t, "S3: not trusted", c, s, h, 3, api.ErrNone)
			s.wantAsked(t, "P19.5: not trusted")
		}
	}
	for _, h := range []uint64{0, 2} {
		wantNoAccount(t, "S3: refused", c, refuses, h, 3, api.ErrSpoilt)
		refuses.wantAsked(t, "P19.5: refused", fmt.Sprint("account ", h, " 3"))
		wantNoAccount(t, "S3: a lie", c, lies, h, 3, api.ErrLie)
		lies.wantAsked(t, "P19.5: a lie", fmt.Sprint("account ", h, " 3"))
	}
}

// TestRefusals: whatever number a source refuses with is the answer, whatever stands beside it.
func TestRefusals(t *testing.T) {
	w := examples(t)
	c := w.follower(30, 2, 3)
	for _, e := range []api.Errno{api.ErrNil, api.ErrArg, api.ErrNone, api.ErrLie, api.ErrNobody, api.ErrTrust, 77, 1000, -1, math.MaxInt, math.MinInt} {
		for _, good := range []bool{false, true} {
			s := w.honest()
			s.account = func(height uint64, a api.Addr) (x api.Witness, _ api.Errno) {
				if good {
					x, _ = w.witnessOf(height, a)
				}
				return x, e
			}
			s.tx = func(height uint64, at int) (x api.Tx, p api.Proof, _ api.Errno) {
				if good {
					x, p, _ = w.txOf(height, at)
				}
				return x, p, e
			}
			s.light = func(uint64) (api.LightBlock, api.Errno) { return w.chain[4], e }
			wantNoAccount(t, "S3: refused", c, s, 2, 3, e)
			wantNoTx(t, "S4: refused", c, s, 2, 1, e)
			is(t, "S2: refused", c.Follow(s, 4, 40), e)
			s.wantAsked(t, "P19.5: refused", "account 2 3", "tx 2 1", "light 4")
			w.wantTrusted("P19.4: refused", c, 1, 2, 3)
		}
	}
}

// TestAccounts: an honest source is taken, behind every height, the beginning too, for every address.
func TestAccounts(t *testing.T) {
	w := examples(t)
	c := w.follower(90, 9, 2, 6, 7, 8)
	s := w.honest()
	for h := range uint64(9) {
		for _, a := range []api.Addr{0, 1, 2, 3, 4, 5, 6, math.MaxUint64} {
			x, _ := ledger.Find(w.ledgers[h], a)
			wantAccount(t, "P19.3", c, s, h, a, x)
			s.wantAsked(t, "P19.5", fmt.Sprint("account ", h, " ", a))
		}
	}
	wantAccount(t, "S3: behind block 1 it has not been paid", c, s, 1, 3, api.Account{})
	wantAccount(t, "S3: behind block 2 it has", c, s, 2, 3, api.Account{Addr: 3, Balance: 30})
	wantAccount(t, "S3: and the beginning stays", c, s, 0, 1, api.Account{Addr: 1, Balance: 100})
	wantAccount(t, "S3: behind block 7", c, s, 7, 1, api.Account{Addr: 1, Balance: 76, Bond: 4, Nonce: 2})
	wantAccount(t, "S3: 0 is asked like any other", c, s, 2, 0, api.Account{})
}

// TestEmptyLedger: where nobody has an account there is none.
func TestEmptyLedger(t *testing.T) {
	w := newWorld(t, 0, accounts(t))
	w.work(seats(1), seats(1))
	c := w.client(1, 15)
	for _, a := range []api.Addr{0, 1, math.MaxUint64} {
		wantAccount(t, "P19.3", c, w.honest(), 0, a, api.Account{})
	}
	liar := w.honest()
	liar.account = func(uint64, api.Addr) (api.Witness, api.Errno) {
		return ledger.Prove(accounts(t, api.Account{Addr: 1, Balance: 1}), 1)
	}
	wantNoAccount(t, "P19.1", c, liar, 0, 1, api.ErrLie)
}

// TestTxOrder: which of several refusals of S4 is answered, and what is asked by then.
func TestTxOrder(t *testing.T) {
	w := examples(t)
	c := w.follower(30, 2)
	lies := w.honest()
	lies.tx = func(uint64, int) (api.Tx, api.Proof, api.Errno) { return api.Tx{}, api.Proof{}, api.OK }
	refuses := w.honest()
	refuses.tx = func(uint64, int) (api.Tx, api.Proof, api.Errno) { return api.Tx{}, api.Proof{}, api.ErrSpoilt }
	outside := []int{math.MinInt, math.MinInt32, -1000, -1, 1000, 1001, math.MaxInt32, math.MaxInt}
	heights := []uint64{0, 3, 9, 10, api.MaxHeight, api.MaxHeight + 1, math.MaxUint64}
	for _, h := range append(heights, 1, 2) {
		for _, at := range append(outside, 0, 999) {
			wantNoTx(t, "S4: nobody is asked", c, nil, h, at, api.ErrNil)
		}
	}
	for _, s := range []*source{w.honest(), lies, refuses} {
		for _, h := range append(heights, 1, 2) {
			for _, at := range outside {
				wantNoTx(t, "S4: no place", c, s, h, at, api.ErrArg)
			}
		}
		for _, h := range heights {
			for _, at := range []int{0, 1, 999} {
				wantNoTx(t, "S4: not trusted", c, s, h, at, api.ErrNone)
			}
		}
		s.wantAsked(t, "P19.5")
	}
	for _, at := range []int{0, 1, 2, 999} {
		wantNoTx(t, "S4: refused", c, refuses, 2, at, api.ErrSpoilt)
		refuses.wantAsked(t, "P19.5: refused", fmt.Sprint("tx 2 ", at))
		wantNoTx(t, "S4: a lie", c, lies, 2, at, api.ErrLie)
		lies.wantAsked(t, "P19.5: a lie", fmt.Sprint("tx 2 ", at))
	}
}

// TestFullBlock: every place of a block at its limit is shown by an honest source, and none beyond.
func TestFullBlock(t *testing.T) {
	w := newWorld(t, 0, accounts(t))
	var txs []api.Tx
	for k := range uint64(api.MaxTxs) {
		txs = append(txs, api.Tx{Kind: api.TxPay, From: 1, To: 2, Amount: k, Nonce: k})
	}
	w.grow(seats(1), seats(1), accounts(t), txs...)
	c := w.client(1, 15)
	s := w.honest()
	for _, at := range []int{0, 1, 2, 255, 511, 512, 513, 767, 768, 991, 992, 998, 999} {
		wantTx(t, "P19.3", c, s, 1, at, txs[at])
		s.wantAsked(t, "P19.5", fmt.Sprint("tx 1 ", at))
	}
	wantNoTx(t, "S4", c, s, 1, 1000, api.ErrArg)
	s.wantAsked(t, "P19.5")
}

// TestTop: the greatest heights.
func TestTop(t *testing.T) {
	w := newWorld(t, api.MaxHeight-3, accounts(t, api.Account{Addr: 1, Balance: 9}))
	for k := range uint64(3) {
		w.work(seats(1, 2), seats(1, 2), api.Tx{Kind: api.TxPay, From: 1, To: 2, Amount: 1, Nonce: k})
	}
	now := w.chain[3].Header.Time
	s := w.honest()
	c := w.client(1, now)
	is(t, "S2", c.Follow(s, api.MaxHeight, now), api.OK)
	is(t, "S2", c.Follow(s, api.MaxHeight+1, now), api.ErrArg)
	s.asked = nil
	w.wantTrusted("S2", c, api.MaxHeight-2, api.MaxHeight)
	wantAccount(t, "S3", c, s, api.MaxHeight-1, 2, api.Account{Addr: 2, Balance: 2})
	wantTx(t, "S4", c, s, api.MaxHeight, 0, w.txs[3][0])
	s.asked = nil
	for _, h := range []uint64{api.MaxHeight, api.MaxHeight + 1, math.MaxUint64} {
		wantNoAccount(t, "S3: never", c, s, h, 2, api.ErrNone)
		wantNoTx(t, "S4: never", c, s, h+1, 0, api.ErrNone)
	}
	s.wantAsked(t, "P19.5")
}
