package client_test

import (
	"fmt"
	"math"
	"math/rand"
	"reflect"
	"slices"
	"testing"

	"assent/api"
	"assent/client"
	"assent/ledger"
	"assent/light"
)

// What follows says the chapter once more, by another hand. It verifies nothing: it knows what stands under each header of the chain, and takes just what an honest source would have shown, for (P2.10, P8.17) nothing else can be borne out.

type model struct {
	*world
	headers *light.Client
}

func newModel(w *world, p api.Params, at int, now uint64) *model {
	w.t.Helper()
	headers, e := light.New(p, name, w.r, w.chain[at], now)
	is(w.t, "light.New", e, api.OK)
	return &model{w, headers}
}

func (m *model) follow(src *source, height, now uint64) api.Errno {
	if src == nil {
		return api.ErrNil
	}
	return m.headers.Update(height, now, src.Light)
}

func (m *model) trusts(height uint64) bool { return slices.Contains(m.headers.Heights(), height) }

func (m *model) account(src *source, height uint64, a api.Addr) (api.Account, bool, api.Errno) {
	if src == nil {
		return api.Account{}, false, api.ErrNil
	}
	if height >= 1<<40 || !m.trusts(height+1) {
		return api.Account{}, false, api.ErrNone
	}
	x, e := src.Account(height, a)
	if e != api.OK {
		return api.Account{}, false, e
	}
	l := m.ledgers[height]
	// What shows that nobody is beyond the last account, or ahead of the first one, shows that account too.
	if right, _ := ledger.Prove(l, a); !alike(x, right) && !m.isEnd(l, a, x) {
		return api.Account{}, false, api.ErrLie
	}
	found, e := ledger.Find(l, a)
	return found, e == api.OK, api.OK
}

// isEnd: is it the first or the last account alone, and a not on its inner side?
func (m *model) isEnd(l api.Ledger, a api.Addr, x api.Witness) bool {
	n := len(l.Accounts)
	if n == 0 {
		return false
	}
	first, _ := ledger.Prove(l, l.Accounts[0].Addr)
	last, _ := ledger.Prove(l, l.Accounts[n-1].Addr)
	return a <= l.Accounts[0].Addr && alike(x, first) || a >= l.Accounts[n-1].Addr && alike(x, last)
}

func (m *model) tx(src *source, height uint64, at int) (api.Tx, api.Errno) {
	if src == nil {
		return api.Tx{}, api.ErrNil
	}
	if at < 0 || at > 999 {
		return api.Tx{}, api.ErrArg
	}
	if !m.trusts(height) {
		return api.Tx{}, api.ErrNone
	}
	x, p, e := src.Tx(height, at)
	if e != api.OK {
		return api.Tx{}, e
	}
	right, q, e := m.txOf(height, at)
	if e != api.OK || x != right || !alike(p, q) {
		return api.Tx{}, api.ErrLie
	}
	return right, api.OK
}

// alike: the same, whether what is empty is nil or not.
func alike[T any](x, y T) bool { return fmt.Sprintf("%#v", tight(x)) == fmt.Sprintf("%#v", tight(y)) }

func tight[T any](x T) T {
	v := reflect.New(reflect.TypeFor[T]()).Elem()
	v.Set(reflect.ValueOf(x))
	tighten(v)
	return v.Interface().(T)
}

// tighten sets every empty list of a value to nil, in copies of the lists it stands in.
func tighten(v reflect.Value) {
	switch v.Kind() {
	case reflect.Struct:
		for k := range v.NumField() {
			tighten(v.Field(k))
		}
	case reflect.Slice:
		was := v.Interface()
		v.SetZero()
		for _, x := range reflect.ValueOf(was).Seq2() {
			one := reflect.New(v.Type().Elem()).Elem()
			one.Set(x)
			tighten(one)
			v.Set(reflect.Append(v, one))
		}
	}
}

const (
	tall = 14
	liar = 90 // sits in every council, with a fifth of the power
)

// someWorld is a chain over ledgers and transactions of any content, whose councils change a little.
func someWorld(t *testing.T, rnd *rand.Rand) *world {
	t.Helper()
	w := newWorld(t, 0, someLedger(rnd))
	council := func(h int) api.Council {
		a := api.Addr(h/3 + 1)
		return seats(a, a+1, a+2, a+3, liar)
	}
	for h := 1; h <= tall; h++ {
		var txs []api.Tx
		for range rnd.Intn(3) * rnd.Intn(5) {
			txs = append(txs, someTx(rnd))
		}
		l := w.ledgers[h-1]
		if rnd.Intn(3) > 0 {
			l = someLedger(rnd)
		}
		w.grow(council(h), council(h+1), l, txs...)
	}
	return w
}

// someLedger is any sound one: with rows and burnt amounts, or with nobody in it.
func someLedger(rnd *rand.Rand) (l api.Ledger) {
	a := api.Addr(0)
	for range rnd.Intn(9) {
		a += api.Addr(1 + rnd.Intn(3))
		x := api.Account{Addr: a, Balance: uint64(rnd.Intn(3)), Bond: uint64(rnd.Intn(3)), Nonce: uint64(rnd.Intn(3)), Jailed: rnd.Intn(4) == 0}
		l.Accounts = append(l.Accounts, x)
		l.Supply += x.Balance + x.Bond
	}
	if a > 0 && rnd.Intn(4) == 0 {
		l.Accounts[len(l.Accounts)-1].Addr, a = math.MaxUint64, math.MaxUint64
	}
	if a > 0 && rnd.Intn(2) == 0 {
		l.Releases = []api.Release{{Height: 9, Addr: a, Born: 2, Amount: 5}}
		l.Supply += 5
	}
	l.Burnt = uint64(rnd.Intn(2))
	l.Supply += l.Burnt
	return l
}

func someTx(rnd *rand.Rand) api.Tx {
	x := api.Tx{Kind: 1 + rnd.Intn(4), From: api.Addr(1 + rnd.Intn(3)), Fee: uint64(rnd.Intn(2)), Nonce: uint64(rnd.Intn(2))}
	if x.Kind == api.TxPay {
		x.To = api.Addr(1 + rnd.Intn(3))
	}
	if x.Kind != api.TxFree {
		x.Amount = uint64(rnd.Intn(3))
	}
	x.Seal[rnd.Intn(16)] = byte(rnd.Intn(2))
	return x
}

// someSource answers the same to the same question; how often it lies is its own.
func (w *world) someSource(rnd *rand.Rand) *source {
	faith, seed := rnd.Intn(4), rnd.Int63()
	dice := func(height uint64, other int64) *rand.Rand {
		return rand.New(rand.NewSource(seed ^ int64(height)*1000003 ^ other*7919))
	}
	return &source{
		light: func(height uint64) (api.LightBlock, api.Errno) {
			r := dice(height, -1)
			u, e := w.lightOf(height)
			if faith == 0 || e == api.OK && r.Intn(4) >= faith {
				return w.lightLie(r, u, e)
			}
			return u, e
		},
		account: func(height uint64, a api.Addr) (api.Witness, api.Errno) {
			r := dice(height, int64(a))
			x, e := w.witnessOf(height, a)
			if faith == 0 || r.Intn(4) >= faith {
				return w.witnessLie(r, x, height, a), lieErrno(r, e)
			}
			return x, e
		},
		tx: func(height uint64, at int) (api.Tx, api.Proof, api.Errno) {
			r := dice(height, int64(at))
			x, p, e := w.txOf(height, at)
			if faith == 0 || r.Intn(4) >= faith {
				x, p = w.txLie(r, x, p, height, at)
				e = lieErrno(r, e)
			}
			return x, p, e
		},
	}
}

// lieErrno: who lies mostly says that all is well.
func lieErrno(r *rand.Rand, e api.Errno) api.Errno {
	switch r.Intn(8) {
	case 0:
		return []api.Errno{api.ErrNone, api.ErrLie, api.ErrNil, -3, 999}[r.Intn(5)]
	case 1:
		return e
	}
	return api.OK
}

// lightLie is another block than the chain's, signed by the liar alone, or something that is not a block.
func (w *world) lightLie(r *rand.Rand, u api.LightBlock, e api.Errno) (api.LightBlock, api.Errno) {
	if e != api.OK {
		u, e = w.chain[1+r.Intn(tall)], lieErrno(r, e)
		return u, e
	}
	h, c := u.Header, u.Council
	switch r.Intn(3) {
	case 0:
		h.State, _ = ledger.Root(someLedger(r))
	case 1:
		h.Txs[0]++
	case 2:
		h.Next = digestOf(w.t, seats(liar))
	}
	switch r.Intn(5) {
	case 0:
		return w.chain[1+r.Intn(tall)], api.OK
	case 1:
		c = seats(liar)
		h.Council = digestOf(w.t, c)
	case 2:
		return api.LightBlock{Header: h, Cert: u.Cert, Council: c}, api.OK
	case 3:
		return u, lieErrno(r, api.ErrSource)
	}
	return w.signed(h, c, liar), api.OK
}

// witnessLie is a witness of another address or height, or one of which something is turned, or of any content.
func (w *world) witnessLie(r *rand.Rand, x api.Witness, height uint64, a api.Addr) api.Witness {
	switch r.Intn(8) {
	case 0:
		x, _ = ledger.Prove(w.ledgers[height%(tall+1)], api.Addr(r.Intn(25)))
	case 1:
		x, _ = ledger.Prove(w.ledgers[r.Intn(tall+1)], a)
	case 2:
		x, _ = ledger.Prove(someLedger(r), a)
	case 3:
		return anything[api.Witness](r)
	case 4:
		slices.Reverse(x.Accounts)
		slices.Reverse(x.Proofs)
	case 5:
		x.Accounts, x.Proofs = x.Accounts[:len(x.Accounts)/2], x.Proofs[:len(x.Proofs)/2]
	default:
		bend(r, &x)
	}
	return x
}

func (w *world) txLie(r *rand.Rand, x api.Tx, p api.Proof, height uint64, at int) (api.Tx, api.Proof) {
	switch r.Intn(6) {
	case 0:
		k := r.Intn(8)
		if y, q, e := w.txOf(height, k); e == api.OK {
			x, p = y, q
		}
		if r.Intn(2) == 0 {
			p.Index = at
		}
	case 1:
		if y, q, e := w.txOf(uint64(1+r.Intn(tall)), at); e == api.OK {
			x, p = y, q
		}
	case 2:
		return anything[api.Tx](r), anything[api.Proof](r)
	case 3:
		bend(r, &x)
	default:
		bend(r, &p)
	}
	return x, p
}

// TestPlays: whatever sources answer, in whatever order the calls come, a client answers as the model does, asks what it asks, and trusts what it trusts.
func TestPlays(t *testing.T) {
	rnd := rand.New(rand.NewSource(191))
	counts := map[string]int{}
	for range 60 {
		w := someWorld(t, rnd)
		for range 4 {
			w.play(rnd, counts)
		}
	}
	for _, what := range []string{"follow 0", "follow 1", "follow 2", "follow 121", "follow 124", "follow 127", "follow 128", "follow 133", "follow 150", "follow 162", "account 0 true", "account 0 false", "account 1 false", "account 133 false", "account 190 false", "account 999 false", "tx 0", "tx 1", "tx 2", "tx 133", "tx 190", "tx 999"} {
		if counts[what] < 5 {
			t.Errorf("%s: %d times; all: %v", what, counts[what], counts)
		}
	}
}

// play makes calls of one client, each held against the model.
func (w *world) play(rnd *rand.Rand, counts map[string]int) {
	w.t.Helper()
	p := api.Params{Trusting: 60 + uint64(rnd.Intn(300)), Drift: uint64(rnd.Intn(30))}
	at := 1 + rnd.Intn(4)
	now := w.chain[at].Header.Time + uint64(rnd.Intn(9))
	m := newModel(w, p, at, now)
	c, e := client.New(p, name, w.r, w.chain[at], now)
	is(w.t, "S1", e, api.OK)
	for range 60 {
		s := w.someSource(rnd)
		var src client.Source = s
		if rnd.Intn(30) == 0 {
			s, src = nil, nil
		}
		kind, height := rnd.Intn(6), uint64(rnd.Intn(tall+2))
		if trusted := m.headers.Heights(); kind > 0 && rnd.Intn(4) > 0 { // mostly something that may be asked for
			height = trusted[rnd.Intn(len(trusted))] - uint64(kind%2)
		}
		if rnd.Intn(20) == 0 {
			height = edges[rnd.Intn(len(edges))]
		}
		var got, want, gotAsked any
		switch kind {
		case 0:
			now += uint64(rnd.Intn(20))
			x := c.Follow(src, height, now)
			got, gotAsked = x, s.take()
			want = m.follow(s, height, now)
			counts[fmt.Sprint("follow ", int(x))]++
		case 1, 3, 5:
			a := api.Addr(rnd.Intn(25))
			if rnd.Intn(9) == 0 {
				a = math.MaxUint64
			}
			x, there, e := c.Account(src, height, a)
			got, gotAsked = fmt.Sprint(x, there, e), s.take()
			want = fmt.Sprint(m.account(s, height, a))
			counts[fmt.Sprint("account ", int(e), " ", there)]++
		default:
			k := rnd.Intn(9)
			if rnd.Intn(9) == 0 {
				k = []int{-1, 999, 1000, math.MinInt, math.MaxInt}[rnd.Intn(5)]
			}
			x, e := c.Tx(src, height, k)
			got, gotAsked = fmt.Sprint(x, e), s.take()
			want = fmt.Sprint(m.tx(s, height, k))
			counts[fmt.Sprint("tx ", int(e))]++
		}
		if got != want {
			w.t.Fatalf("height %d: %v, want %v", height, got, want)
		}
		if asked := s.take(); gotAsked != asked {
			w.t.Fatalf("P19.5: height %d: asked was %v, want %v", height, gotAsked, asked)
		}
		if c.Latest() != m.headers.Latest() {
			w.t.Fatalf("S5: %d, want %d", c.Latest(), m.headers.Latest())
		}
	}
	// The liars were few: so all that it trusts is the chain's (W7), and an honest source is believed (P19.4).
	for _, h := range m.headers.Heights() {
		if u, _ := m.headers.Trusted(h); u.Header != w.chain[h].Header {
			w.t.Fatalf("W7: the header %d is not the chain's", h)
		}
	}
	w.wantTrusted("P19.4", c, m.headers.Heights()...)
}

// take is what was asked for since it was last taken, as a text.
func (s *source) take() string {
	if s == nil {
		return ""
	}
	asked := fmt.Sprint(s.asked)
	s.asked = nil
	return asked
}

// TestAsIfNever: P19.4: who was asked liars in between is answered as who was not.
func TestAsIfNever(t *testing.T) {
	rnd := rand.New(rand.NewSource(192))
	refused := 0
	for range 40 {
		w := someWorld(t, rnd)
		now := w.chain[tall].Header.Time
		p := api.Params{Trusting: 1000, Drift: 5}
		c, _ := client.New(p, name, w.r, w.chain[1], now)
		d, _ := client.New(p, name, w.r, w.chain[1], now)
		for range 30 {
			bad, h, k := w.someSource(rnd), uint64(1+rnd.Intn(tall)), rnd.Intn(9)
			latest := c.Latest()
			if c.Follow(bad, h, now) == api.OK {
				is(t, "P19.4", d.Follow(bad, h, now), api.OK) // that was no lie
			} else if refused++; c.Latest() != latest {
				t.Fatalf("P19.4: the latest is %d, it was %d", c.Latest(), latest)
			}
			latest = c.Latest()
			c.Account(bad, h, api.Addr(k))
			c.Tx(bad, h, k)
			if c.Latest() != latest {
				t.Fatalf("P19.4: the latest is %d, it was %d", c.Latest(), latest)
			}
			s, z, h := w.honest(), w.honest(), uint64(1+rnd.Intn(tall))
			if x, y := c.Follow(s, h, now), d.Follow(z, h, now); x != y || x != api.OK {
				t.Fatalf("P19.4: error %d, and %d", x, y)
			}
			for a := range api.Addr(6) {
				if x, y := fmt.Sprint(c.Account(s, h-1, a)), fmt.Sprint(d.Account(z, h-1, a)); x != y {
					t.Fatalf("P19.4: %s, and %s", x, y)
				}
				if x, y := fmt.Sprint(c.Tx(s, h, int(a))), fmt.Sprint(d.Tx(z, h, int(a))); x != y {
					t.Fatalf("P19.4: %s, and %s", x, y)
				}
			}
			if x, y := s.take(), z.take(); x != y {
				t.Fatalf("P19.4: asked was %s, and %s", x, y)
			}
		}
	}
	if refused < 100 {
		t.Errorf("P19.4: %d lies were refused", refused)
	}
}
