package wire_test

import (
	"bytes"
	"math"
	"math/rand"
	"reflect"
	"runtime"
	"strings"
	"testing"

	"assent/api"
	"assent/wire"
)

// wild fills a value with anything: edges of the limits, edges of the numbers, small ones; lists short, or just above a limit.
func wild(r *rand.Rand, v reflect.Value) {
	uints := []uint64{0, 1, 2, 3, 127, 128, 1000, 1001, api.MaxRound, api.MaxRound + 1, api.MaxHeight, tooHigh, api.MaxTime, tooLate, api.MaxSupply, tooMuch, math.MaxUint64}
	ints := []int64{math.MinInt64, -2, -1, 0, 1, 2, 3, 4, 5, 6, 7, 8, 63, 64, 65, 255, 256, 1000, 1001, api.MaxRound, api.MaxRound + 1, 1<<31 - 1, 1 << 31, math.MaxInt64}
	switch v.Kind() {
	case reflect.Uint8:
		v.SetUint(uint64(r.Intn(2) * r.Intn(256)))
	case reflect.Uint64:
		v.SetUint(uints[r.Intn(len(uints))])
	case reflect.Int, reflect.Int64:
		v.SetInt(ints[r.Intn(len(ints))])
	case reflect.Bool:
		v.SetBool(r.Intn(2) == 0)
	case reflect.String:
		v.SetString(strings.Repeat("é", r.Intn(10)))
	case reflect.Slice:
		n := []int{0, 0, 1, 2, 3, 17, 65}[r.Intn(7)]
		v.Set(reflect.MakeSlice(v.Type(), n, n))
		for k := range n {
			wild(r, v.Index(k))
		}
	case reflect.Array:
		for k := range v.Len() {
			wild(r, v.Index(k))
		}
	case reflect.Struct:
		for k := range v.NumField() {
			wild(r, v.Field(k))
		}
	}
}

// stir changes one part of a value, somewhere within.
func stir(r *rand.Rand, v reflect.Value) {
	for {
		switch v.Kind() {
		case reflect.Struct:
			v = v.Field(r.Intn(v.NumField()))
		case reflect.Slice:
			if v.Len() == 0 || r.Intn(4) == 0 {
				wild(r, v)
				return
			}
			v = v.Index(r.Intn(v.Len()))
		case reflect.Array:
			v = v.Index(r.Intn(v.Len()))
		default:
			wild(r, v)
			return
		}
	}
}

// clone is a value with lists of its own; empty ones are nil.
func clone(v reflect.Value) reflect.Value {
	w := reflect.New(v.Type()).Elem()
	w.Set(v)
	switch v.Kind() {
	case reflect.Slice:
		w.SetZero()
		if v.Len() > 0 {
			w.Set(reflect.MakeSlice(v.Type(), v.Len(), v.Len()))
		}
		for k := range v.Len() {
			w.Index(k).Set(clone(v.Index(k)))
		}
	case reflect.Struct:
		for k := range v.NumField() {
			w.Field(k).Set(clone(v.Field(k)))
		}
	}
	return w
}

func cloneOf(x any) any { return clone(reflect.ValueOf(x)).Interface() }

// thereAndBack holds a thing against P4.1 to P4.3 and the first part of G3.
func thereAndBack(t *testing.T, c calls, x any) {
	t.Helper()
	before := cloneOf(x)
	want := c.plain(x)
	b, e := c.encode(x)
	if e != want || (b == nil) != (e != api.OK) {
		t.Fatalf("P4.1: %s %+v: plain says %d, encode %d with %d bytes", c.name, x, want, e, len(b))
	}
	if !reflect.DeepEqual(cloneOf(x), before) {
		t.Fatalf("G3: %s was changed", c.name)
	}
	if e != api.OK {
		return
	}
	if y, e := c.decode(b); e != api.OK || !reflect.DeepEqual(y, before) {
		t.Fatalf("P4.1: %s %+v is read as %+v, error %d", c.name, x, y, e)
	}
}

func TestThereAndBack(t *testing.T) {
	r := rand.New(rand.NewSource(4))
	for _, c := range allCalls() {
		for _, x := range c.goods {
			if e := c.plain(x); e != api.OK {
				t.Fatalf("%s: a good one is refused: %d", c.name, e)
			}
			thereAndBack(t, c, x)
			for range 300 {
				y := reflect.New(reflect.TypeOf(x)).Elem()
				y.Set(reflect.ValueOf(cloneOf(x)))
				for range 1 + r.Intn(2) {
					stir(r, y)
				}
				thereAndBack(t, c, y.Interface())
			}
		}
	}
}

// TestAnything: no argument makes a call panic, whatever it holds.
func TestAnything(t *testing.T) {
	r := rand.New(rand.NewSource(5))
	for _, c := range allCalls() {
		for range 300 {
			x := reflect.New(reflect.TypeOf(c.goods[0])).Elem()
			wild(r, x)
			thereAndBack(t, c, x.Interface())
		}
	}
	for range 300 {
		var s struct {
			Tx        api.Tx
			Vote      api.Vote
			Proposal  api.Proposal
			Header    api.Header
			Cert      api.Cert
			Txs       []api.Tx
			Evidences []api.Evidence
			Chain     string
		}
		wild(r, reflect.ValueOf(&s).Elem())
		wire.TxBytes(s.Chain, s.Tx)
		wire.VoteBytes(s.Chain, s.Vote)
		wire.ProposalBytes(s.Chain, s.Proposal)
		wire.TxId(s.Tx)
		wire.BlockId(s.Header)
		wire.CertId(s.Cert)
		wire.TxsRoot(s.Txs)
		wire.EvidenceRoot(s.Evidences)
	}
}

// oneForm holds bytes against P4.2: what is read has just these bytes as its form.
func oneForm(t *testing.T, c calls, b []byte) {
	t.Helper()
	before := bytes.Clone(b)
	x, e := c.decode(b)
	if !bytes.Equal(b, before) {
		t.Fatalf("G3: the bytes of a %s were changed", c.name)
	}
	if e != api.OK {
		if !reflect.ValueOf(x).IsZero() {
			t.Fatalf("G2: %s: beside the error %d: %+v", c.name, e, x)
		}
		return
	}
	if f, e := c.encode(x); e != api.OK || !bytes.Equal(f, b) {
		t.Fatalf("P4.2: %s: % x is read, and laid down as % x, error %d", c.name, b, f, e)
	}
}

func TestOneForm(t *testing.T) {
	r := rand.New(rand.NewSource(6))
	for _, c := range allCalls() {
		for _, x := range c.goods {
			b, _ := c.encode(x)
			for k := range b { // one byte another, one byte gone, one byte more
				for _, v := range []byte{0, 1, 0x7f, 0x80, 0xff, b[k] ^ 1, b[k] + 1} {
					changed := bytes.Clone(b)
					changed[k] = v
					oneForm(t, c, changed)
				}
				oneForm(t, c, append(bytes.Clone(b[:k]), b[k+1:]...))
				oneForm(t, c, append(append(bytes.Clone(b[:k]), byte(r.Intn(256))), b[k:]...))
				if k > 300 && len(b) > 1000 {
					break
				}
			}
		}
		for range 3000 {
			b := make([]byte, r.Intn(200))
			r.Read(b)
			if len(b) > 0 && r.Intn(2) == 0 {
				b[0] = byte(r.Intn(8))
			}
			oneForm(t, c, b)
		}
	}
}

// TestNoFormBeginsAnother: a form with its end cut off is none, nor is one with bytes behind it.
func TestNoFormBeginsAnother(t *testing.T) {
	for _, c := range allCalls() {
		for _, x := range c.goods {
			b, _ := c.encode(x)
			for k := range b {
				if _, e := c.decode(b[:k]); e != api.ErrCut {
					t.Errorf("P4.2: %s: the first %d of %d bytes: error %d", c.name, k, len(b), e)
				}
			}
			if _, e := c.decode(append(b, 0)); e != api.ErrRest {
				t.Errorf("P4.2: %s: a byte behind: error %d", c.name, e)
			}
		}
	}
}

func TestWhatIsSignedThereAndBack(t *testing.T) {
	r := rand.New(rand.NewSource(7))
	vote, p := []byte("V\x01a"+voteBody(goodVote())), []byte("P\x01a"+proposalBody(goodProposal()))
	for k := range vote {
		for range 20 {
			b := bytes.Clone(vote)
			b[k] = byte(r.Intn(256))
			if chain, v, e := wire.ReadVoteBytes(b); e == api.OK {
				f, e := wire.VoteBytes(chain, v)
				wantBytes(t, "P4.4, a vote", f, e, string(b))
			}
		}
		wantVote(t, "P4.4", string(vote[:k]), "", api.Vote{}, api.ErrCut)
	}
	for k := range p {
		for range 20 {
			b := bytes.Clone(p)
			b[k] = byte(r.Intn(256))
			if chain, q, e := wire.ReadProposalBytes(b); e == api.OK {
				f, e := wire.ProposalBytes(chain, q)
				wantBytes(t, "P4.4, a proposal", f, e, string(b))
			}
		}
		wantProposal(t, "P4.4", string(p[:k]), "", api.Proposal{}, api.ErrCut)
	}
}

// TestNoRoomForWhatIsNotThere: a Count that claims more than there is costs nothing.
func TestNoRoomForWhatIsNotThere(t *testing.T) {
	front := "\x01c\x00\x01" + zeros(10+2+32)
	claims := []string{
		front + zeros(3) + number(1<<31-1) + zeros(100),
		front + zeros(5) + number(1<<31-1) + zeros(100),
		front + zeros(4) + number(65536) + zeros(100),
	}
	var before, after runtime.MemStats
	runtime.ReadMemStats(&before)
	for _, b := range claims {
		wantRefused(t, "P4.6", wire.DecodeState, b, api.ErrCut)
	}
	runtime.ReadMemStats(&after)
	if used := after.TotalAlloc - before.TotalAlloc; used > 1<<20 {
		t.Errorf("P4.6: %d bytes of memory for bytes that are not there", used)
	}
}

// scribble writes over all that the lists of a value hold, and over the room behind them.
func scribble(v reflect.Value) {
	switch v.Kind() {
	case reflect.Slice:
		v.SetLen(v.Cap())
		for k := range v.Len() {
			scribble(v.Index(k))
			overwrite(v.Index(k))
		}
	case reflect.Struct:
		for k := range v.NumField() {
			scribble(v.Field(k))
		}
	}
}

func overwrite(v reflect.Value) {
	switch v.Kind() {
	case reflect.Uint8, reflect.Uint64:
		v.SetUint(0x55)
	case reflect.Int, reflect.Int64:
		v.SetInt(0x55)
	case reflect.Array:
		for k := range v.Len() {
			overwrite(v.Index(k))
		}
	case reflect.Struct:
		for k := range v.NumField() {
			overwrite(v.Field(k))
		}
	}
}

// TestAnswersAreNew: neither the argument nor another answer is seen in an answer.
func TestAnswersAreNew(t *testing.T) {
	for _, c := range allCalls() {
		for _, x := range c.goods {
			form, _ := c.encode(x)
			first, _ := c.encode(x)
			scribble(reflect.ValueOf(&first).Elem())
			if again, _ := c.encode(x); !bytes.Equal(again, form) {
				t.Errorf("G3: %s: two forms share their memory", c.name)
			}
			b := bytes.Clone(form)
			y, _ := c.decode(b)
			scribble(reflect.ValueOf(&b).Elem())
			if !reflect.DeepEqual(y, x) {
				t.Errorf("G3: %s: what is read shares memory with its bytes", c.name)
			}
			z := reflect.New(reflect.TypeOf(y)).Elem()
			z.Set(reflect.ValueOf(y))
			again, _ := c.decode(form)
			scribble(z)
			if !reflect.DeepEqual(again, x) {
				t.Errorf("G3: %s: two answers share their memory", c.name)
			}
		}
	}
}

// TestListsOfOneAnswer: what is written into the room behind one list of an answer is not seen in another.
func TestListsOfOneAnswer(t *testing.T) {
	b, _ := wire.EncodeState(changed(goodState(), func(x *api.State) { x.Next = x.Council }))
	x, _ := wire.DecodeState(b)
	want := cloneOf(x.Next)
	x.Council.Members = append(x.Council.Members, api.Member{Addr: 99})
	scribble(reflect.ValueOf(&x.Council).Elem())
	if !reflect.DeepEqual(x.Next, want) {
		t.Errorf("G3: the councils share their memory: %+v", x.Next)
	}
	m, _ := wire.EncodeMsg(goodMsgs()[0])
	y, _ := wire.DecodeMsg(m)
	rest := cloneOf(y.Block.Last)
	votes := cloneOf(y.Votes)
	y.Block.Txs = append(y.Block.Txs, api.Tx{})
	scribble(reflect.ValueOf(&y.Block.Txs).Elem())
	scribble(reflect.ValueOf(&y.Block.Evidence).Elem())
	if !reflect.DeepEqual(y.Block.Last, rest) || !reflect.DeepEqual(y.Votes, votes) {
		t.Errorf("G3: the lists of a block share their memory: %+v", y)
	}
}
