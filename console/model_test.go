package console_test

import (
	"encoding/hex"
	"fmt"
	"math"
	"math/big"
	"reflect"
	"regexp"
	"strings"
	"testing"

	"assent/api"
	"assent/chain"
	"assent/cluster"
	"assent/console"
	"assent/wire"
)

// grammar is the chapter's table once more: of each command the kinds of its words; what ends in * may stand as often as one likes.
var grammar = map[string]string{
	"chain": "WORD NUMBER", "account": "NUMBER NUMBER NUMBER", "param": "PARAM NUMBER", "start": "NUMBER NUMBER*",
	"deliver": "NUMBER", "again": "NUMBER", "drop": "NUMBER", "tick": "NUMBER NUMBER", "rounds": "NUMBER",
	"fail": "NUMBER NUMBER TROUBLE", "crash": "NUMBER BYTE NUMBER*",
	"pay": "NUMBER NUMBER NUMBER NUMBER NUMBER", "bond": "NUMBER NUMBER NUMBER NUMBER", "unbond": "NUMBER NUMBER NUMBER NUMBER", "free": "NUMBER NUMBER NUMBER",
	"vote": "NUMBER TO KIND NUMBER NUMBER ID NUMBER", "propose": "NUMBER TO NUMBER NUMBER",
	"pending": "", "node": "NUMBER", "block": "NUMBER NUMBER", "account?": "NUMBER NUMBER", "council": "NUMBER", "pool": "NUMBER", "blame": "",
}

const aNumber = `(?:0|[1-9][0-9]{0,19})`

var (
	aWord = regexp.MustCompile(`[^ \t\r]+`)
	kinds = map[string]*regexp.Regexp{
		"WORD":    regexp.MustCompile(`(?s)^.*$`),
		"NUMBER":  regexp.MustCompile(`^` + aNumber + `$`),
		"BYTE":    regexp.MustCompile(`^(?:[0-9]|[1-9][0-9]|1[0-9][0-9]|2[0-4][0-9]|25[0-5])$`),
		"PARAM":   regexp.MustCompile(`^(?:minbond|seats|slash|period|age|maxtxs|propose|votes|pause|resend|trusting|drift)$`),
		"TROUBLE": regexp.MustCompile(`^(?:fault|power|done)$`),
		"TO":      regexp.MustCompile(`^(?:all|` + aNumber + `)$`),
		"KIND":    regexp.MustCompile(`^(?:prevote|precommit)$`),
		"ID":      regexp.MustCompile(`^(?:none|[0-9a-f]{64}|@` + aNumber + `:` + aNumber + `)$`),
	}
	digitRuns = regexp.MustCompile(`[0-9]+`)
	beyond    = new(big.Int).Lsh(big.NewInt(1), 64)
)

// model is the chapter, said a second time in another way, over a cluster of its own. It shares the reading of the chapter, and the layers below, so it shows slips and not misreadings.
type model struct {
	g     api.Genesis
	addrs []api.Addr
	c     *cluster.Cluster
}

func newModel() *model {
	return &model{g: api.Genesis{Chain: "c", Time: 1, Params: api.Params{MinBond: 1, Seats: 64, Slash: 100, Period: 16, Age: 8, MaxTxs: 100, Propose: 6, Votes: 4, Pause: 2, Resend: 5, Trusting: 1000, Drift: 10}}}
}

// run plays a whole script.
func (m *model) run(script string) string {
	if len(script) > 65536 {
		return "error 4\n"
	}
	var out strings.Builder
	for _, line := range strings.Split(script, "\n") {
		out.WriteString(m.line(line))
	}
	return out.String()
}

// line plays one.
func (m *model) line(line string) string {
	var words []string
	for _, w := range aWord.FindAllString(line, -1) {
		if strings.HasPrefix(w, "#") {
			break
		}
		words = append(words, w)
	}
	if len(words) == 0 {
		return ""
	}
	if e := m.fault(words); e != 0 {
		return fmt.Sprintf("error %d\n", e)
	}
	told, e := m.play(words[0], words[1:])
	if e != api.OK {
		return fmt.Sprintf("error %d\n", e)
	}
	return told
}

// fault is why a line can't be played, by itself and by where it stands.
func (m *model) fault(words []string) int {
	shape, known := grammar[words[0]]
	if !known {
		return 200
	}
	want := strings.Fields(shape)
	rest, many := words[1:], false
	if n := len(want); n > 0 && strings.HasSuffix(want[n-1], "*") {
		many, want = true, want[:n-1]
	}
	if len(rest) < len(want) || len(rest) > len(want) && !many {
		return 201
	}
	for k, w := range rest {
		kind := "NUMBER"
		if k < len(want) {
			kind = want[k]
		}
		if !kinds[kind].MatchString(w) && kind != "WORD" {
			return 200
		}
		for _, run := range digitRuns.FindAllString(w, -1) {
			if n, _ := new(big.Int).SetString(run, 10); n.Cmp(beyond) >= 0 && kind != "WORD" && len(w) != 64 {
				return 200
			}
		}
	}
	if strings.Contains(" chain account param start ", " "+words[0]+" ") == (m.c != nil) {
		return 3
	}
	return 0
}

// num is a word as a number.
func num(w string) uint64 {
	n, ok := new(big.Int).SetString(w, 10)
	if !ok || !n.IsUint64() {
		panic("no number: " + w)
	}
	return n.Uint64()
}

// place is a word as a number for a call that wants an int.
func place(w string) int {
	if w == "all" {
		return -1
	}
	if n := num(w); n <= math.MaxInt64 {
		return int(n)
	}
	return math.MaxInt64
}

// play does what a line says in which nothing is wrong by itself.
func (m *model) play(name string, w []string) (string, api.Errno) {
	switch name {
	case "chain":
		m.g.Chain, m.g.Time = w[0], num(w[1])
	case "account":
		m.g.Accounts = append(m.g.Accounts, api.Account{Addr: api.Addr(num(w[0])), Balance: num(w[1]), Bond: num(w[2])})
	case "param":
		// The names are those of the fields, written small.
		f := reflect.ValueOf(&m.g.Params).Elem().FieldByNameFunc(func(s string) bool { return strings.ToLower(s) == w[0] })
		if f.CanUint() {
			f.SetUint(num(w[1]))
		} else {
			f.SetInt(int64(place(w[1])))
		}
	case "start":
		var addrs []api.Addr
		for _, a := range w[1:] {
			addrs = append(addrs, api.Addr(num(a)))
		}
		c, e := cluster.New(m.g, addrs, place(w[0]))
		if e != api.OK {
			return "", e
		}
		m.c, m.addrs = c, addrs
	case "node", "block", "account?", "council", "pool", "pending", "blame":
		return m.tell(name, w)
	default:
		return "ok\n", m.act(name, w)
	}
	return "ok\n", api.OK
}

// act has something come to pass in the cluster.
func (m *model) act(name string, w []string) api.Errno {
	switch name {
	case "deliver", "again":
		return m.c.Deliver(place(w[0]), name == "again")
	case "drop":
		return m.c.Drop(place(w[0]))
	case "tick":
		return m.c.Tick(place(w[0]), num(w[1]))
	case "rounds":
		return m.c.Rounds(place(w[0]))
	case "fail":
		t := map[string]api.Trouble{"fault": {Kind: 1}, "power": {Kind: 2}, "done": {Kind: 2, Done: true}}[w[2]]
		t.At = place(w[1])
		return m.c.Arm(place(w[0]), t)
	case "crash":
		keep := []int{}
		for _, k := range w[2:] {
			keep = append(keep, place(k))
		}
		return m.c.Restart(place(w[0]), keep, byte(num(w[1])))
	case "vote":
		return m.vote(w)
	case "propose":
		return m.propose(w)
	}
	// What is left are transactions: node, from, then to, amount, fee as far as the kind has them.
	x := api.Tx{From: api.Addr(num(w[1])), Fee: num(w[len(w)-1])}
	switch name {
	case "pay":
		x.Kind, x.To, x.Amount = 1, api.Addr(num(w[2])), num(w[3])
	case "bond":
		x.Kind, x.Amount = 2, num(w[2])
	case "unbond":
		x.Kind, x.Amount = 3, num(w[2])
	case "free":
		x.Kind = 4
	}
	return m.submit(place(w[0]), x)
}

func (m *model) submit(node int, x api.Tx) api.Errno {
	st, _ := m.c.State(node)
	for _, a := range st.Ledger.Accounts {
		if a.Addr == x.From {
			x.Nonce += a.Nonce
		}
	}
	waits, _ := m.c.Pool(node)
	for _, y := range waits {
		if y.From == x.From {
			x.Nonce++
		}
	}
	return m.c.Submit(node, x)
}

// who is the address at a place, or nobody.
func (m *model) who(at int) api.Addr {
	for k, a := range m.addrs {
		if k == at {
			return a
		}
	}
	return 0
}

func (m *model) vote(w []string) api.Errno {
	v := api.Vote{Kind: map[string]int{"prevote": 1, "precommit": 2}[w[2]], Height: num(w[3]), Round: place(w[4]), Time: num(w[6]), From: m.who(place(w[0]))}
	if told, ok := strings.CutPrefix(w[5], "@"); ok {
		part := strings.Split(told, ":")
		b, _, e := m.c.Block(place(part[0]), num(part[1]))
		if e != api.OK {
			return e
		}
		v.Id = idOf(b)
	} else if w[5] != "none" {
		b, _ := hex.DecodeString(w[5])
		v.Id = api.Hash(b)
	}
	return m.c.Lie(place(w[0]), place(w[1]), api.Msg{Kind: api.MsgVote, Votes: []api.Vote{v}})
}

func (m *model) propose(w []string) api.Errno {
	st, e := m.c.State(place(w[2]))
	if e != api.OK {
		return e
	}
	_, cert, e := m.c.Block(place(w[2]), st.Height)
	if e != api.OK {
		return e
	}
	from := m.who(place(w[0]))
	b, e := chain.Make(st, m.c.Registry(), nil, nil, cert, from)
	if e != api.OK {
		return e
	}
	return m.c.Lie(place(w[0]), place(w[1]), api.Msg{Kind: api.MsgProposal, Block: b, Proposal: api.Proposal{Height: st.Height + 1, Round: place(w[3]), ValidRound: -1, Id: idOf(b), From: from}})
}

func idOf(b api.Block) api.Hash {
	id, e := wire.BlockId(b.Header)
	if e != api.OK {
		panic("a block has an id")
	}
	return id
}

// tell is what a line tells that only asks.
func (m *model) tell(name string, w []string) (string, api.Errno) {
	if name == "pending" {
		return fmt.Sprintf("pending %d\n", m.c.Pending()), api.OK
	}
	if name == "blame" {
		return m.blame()
	}
	k := place(w[0])
	st, e := m.c.State(k)
	if e != api.OK {
		return "", e
	}
	out := ""
	switch name {
	case "node":
		v, _ := m.c.View(k)
		now, _ := m.c.Clock(k)
		out = fmt.Sprintf("node %d height %d round %d step %d locked %d valid %d clock %d%s\n", k, st.Height, v.Round, v.Step, v.Locked, v.Valid, now, map[bool]string{true: " dead"}[m.c.Dead(k)])
	case "block":
		b, x, e := m.c.Block(k, num(w[1]))
		if e != api.OK {
			return "", e
		}
		out = fmt.Sprintf("block %d %x round %d time %d txs %d evidence %d by %d\n", num(w[1]), idOf(b), x.Round, b.Header.Time, len(b.Txs), len(b.Evidence), b.Header.Proposer)
	case "account?":
		for _, a := range st.Ledger.Accounts {
			if a.Addr == api.Addr(num(w[1])) {
				return fmt.Sprintf("account %d balance %d bond %d nonce %d%s\n", a.Addr, a.Balance, a.Bond, a.Nonce, map[bool]string{true: " jailed"}[a.Jailed]), api.OK
			}
		}
		return "", api.ErrNobody
	case "council":
		for _, x := range st.Council.Members {
			out += fmt.Sprintf("member %d power %d\n", x.Addr, x.Power)
		}
	case "pool":
		waits, _ := m.c.Pool(k)
		out = fmt.Sprintf("pool %d\n", len(waits))
	}
	return out, api.OK
}

func (m *model) blame() (string, api.Errno) {
	guilts, e := m.c.Blame()
	out := ""
	for _, g := range guilts {
		out += fmt.Sprintf("guilt %d %s\n", g.Addr, []string{"", "twice", "forgets"}[g.Kind])
	}
	return out, e
}

// wantModel: a script answers what the model does.
func wantModel(t *testing.T, what, script string) string {
	t.Helper()
	got, want := console.Run(script), newModel().run(script)
	if got == want {
		return got
	}
	one, two := strings.Split(got, "\n"), strings.Split(want, "\n")
	for k := 0; k < len(one) && k < len(two); k++ {
		if one[k] != two[k] {
			t.Fatalf("%s: the answer %d is %q, want %q; the script: %.2000q", what, k, one[k], two[k], script)
		}
	}
	t.Fatalf("%s: %d answers, want %d; the script: %.2000q", what, len(one), len(two), script)
	return got
}

// TestModel: the tables of lines of the other tests, and each beginning of their scripts, by the model too.
func TestModel(t *testing.T) {
	for _, s := range shapes {
		wantModel(t, "the model", s.line)
		wantModel(t, "the model", begin+s.line)
		all := strings.Fields(s.line)
		for k := range all {
			for _, word := range append([]string{"", "all", "none", "prevote", "0 0"}, bad...) {
				one := append([]string(nil), all...)
				one[k] = word
				line := strings.Join(one, " ")
				if want := newModel().run(line); console.Run(line) != want {
					t.Errorf("the model: %q answers %q, want %q", line, console.Run(line), want)
				}
			}
		}
	}
}
