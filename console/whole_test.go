package console_test

import (
	"fmt"
	"math/rand"
	"slices"
	"strconv"
	"strings"
	"testing"

	"assent/api"
	"assent/console"
	"assent/council"
	"assent/wire"
)

// lot is a scene in which much comes to pass by lot.
type lot struct {
	*scene
	r       *rand.Rand
	members int
	liars   int
	calm    bool // nothing is burnt or let go: then all that there is can be asked for
	quiet   bool // liars sign no vote of a round far ahead: then it goes on
	powers  []uint64
}

// newLot is one whose liars are few, and stay few: only honest members bond, and only liars let go.
func newLot(t *testing.T, seed int64) *lot {
	t.Helper()
	r := rand.New(rand.NewSource(seed))
	l := &lot{r: r, members: 4 + r.Intn(4), calm: seed%2 == 0, quiet: seed%5 > 0}
	l.liars = r.Intn((l.members-1)/3 + 1)
	age, script := 1+r.Intn(5), ""
	slash := r.Intn(1001)
	if l.calm {
		slash = 0
	}
	for _, p := range []string{
		fmt.Sprintf("minbond %d", 1+r.Intn(4)), fmt.Sprintf("seats %d", 8+r.Intn(57)), fmt.Sprintf("slash %d", slash), fmt.Sprintf("age %d", age), fmt.Sprintf("period %d", age+3+r.Intn(4)), fmt.Sprintf("maxtxs %d", 1+r.Intn(20)),
		fmt.Sprintf("propose %d", 1+r.Intn(6)), fmt.Sprintf("votes %d", 1+r.Intn(4)), fmt.Sprintf("pause %d", r.Intn(4)), fmt.Sprintf("resend %d", 1+r.Intn(8)), fmt.Sprintf("trusting %d", 1+r.Intn(900)), fmt.Sprintf("drift %d", r.Intn(9)),
	} {
		if r.Intn(4) > 0 || strings.HasPrefix(p, "slash") || strings.HasPrefix(p, "age") || strings.HasPrefix(p, "period") {
			script += "param " + p + "\n"
		}
	}
	if r.Intn(2) == 0 {
		script += fmt.Sprintf("chain %s %d\n", []string{"x", "\xff", "0123456789abcdef"}[r.Intn(3)], r.Intn(1000))
	}
	l.scene = newScene(t, script+l.accounts(func(int) uint64 { return uint64(10 + r.Intn(4)) }))
	return l
}

// accounts are those of the members, from 11 on, and of two more, 40 and 41, and the start.
func (l *lot) accounts(bond func(int) uint64) (script string) {
	start := fmt.Sprintf("start %d", l.liars)
	for k := range l.members {
		l.powers = append(l.powers, bond(k))
		script += fmt.Sprintf("account %d 300 %d\n", 11+k, l.powers[k])
		start += fmt.Sprintf(" %d", 11+k)
	}
	return script + "account 40 300 0\naccount 41 300 0\n" + start + "\n"
}

// someone is the address of an account, or (seldom) of none.
func (l *lot) someone() int {
	if n := l.r.Intn(l.members + 3); n < l.members {
		return 11 + n
	}
	return 40 + l.r.Intn(4)
}

// stir says a line, of a hundred kinds.
func (l *lot) stir(troubles bool) {
	k, n := l.r.Intn(l.honest()), l.r.Intn(100)
	switch pending := l.m.c.Pending(); {
	case n < 40 && pending > 0:
		at := 0
		if l.r.Intn(3) == 0 {
			at = l.r.Intn(pending)
		}
		l.say("%s %d", []string{"deliver", "deliver", "deliver", "deliver", "deliver", "deliver", "again", "drop"}[l.r.Intn(8)], at)
	case n < 58:
		l.say("tick %d %d", k, l.r.Intn(4))
	case n < 60:
		l.say("rounds %d", l.r.Intn(3))
	case n < 66:
		l.stirMoney(k)
	case n < 76 && l.liars > 0:
		l.lie(k)
	case n < 82 && troubles:
		l.trouble(k)
	case n < 95:
		l.ask(k)
	default:
		l.nonsense()
	}
	for l.m.c.Pending() > 400 {
		l.say("drop %d", l.r.Intn(l.m.c.Pending()))
	}
}

func (l *lot) stirMoney(k int) {
	member := 11 + l.r.Intn(l.members)
	switch l.r.Intn(4) {
	case 0:
		if member < 11+l.honest() {
			l.say("bond %d %d %d %d", k, member, l.r.Intn(4), l.r.Intn(3))
		}
	case 1:
		if member >= 11+l.honest() && !l.calm {
			l.say("unbond %d %d %d %d", k, member, l.r.Intn(4), l.r.Intn(3))
		}
	case 2:
		l.say("free %d %d %d", k, member, l.r.Intn(3))
	}
	l.say("pay %d %d %d %d %d", k, l.someone(), l.someone(), l.r.Intn(20), l.r.Intn(4))
}

func (l *lot) trouble(k int) {
	if !l.m.c.Dead(k) && l.r.Intn(3) > 0 {
		l.say("fail %d %d %s", k, 1+l.r.Intn(9), []string{"fault", "power", "done"}[l.r.Intn(3)])
		return
	}
	line := fmt.Sprintf("crash %d %d", k, l.r.Intn(3)*l.r.Intn(128))
	for range l.r.Intn(40) {
		line += " " + strconv.Itoa(l.r.Intn(150))
	}
	l.must("%s", line)
}

// lie has a liar vote or propose something near to where a node stands.
func (l *lot) lie(k int) {
	liar, to := l.honest()+l.r.Intn(l.liars), strconv.Itoa(k)
	if l.r.Intn(3) == 0 {
		to = "all"
	}
	v := l.view(k)
	round := max(0, v.Round+l.r.Intn(4)-1)
	if l.quiet {
		round = min(round, max(v.Round, api.Window))
	}
	if l.r.Intn(4) == 0 {
		for n := range 4 { // a round in which it is its turn
			if who, _ := council.Proposer(l.state(k).Council, round+n); who == l.m.who(liar) {
				round += n
				break
			}
		}
		l.say("propose %d %s %d %d", liar, to, l.r.Intn(l.honest()), round)
		return
	}
	ids := []string{"none", "none", fmt.Sprintf("@%d:%d", k, l.r.Intn(int(v.Height)+1)), fmt.Sprintf("%064x", l.r.Intn(3))}
	if id, ok := l.proposed(k); ok {
		ids = append(ids, fmt.Sprintf("%x", id), fmt.Sprintf("%x", id), fmt.Sprintf("%x", id))
	}
	id, kind, time := ids[l.r.Intn(len(ids))], []string{"prevote", "precommit"}[l.r.Intn(2)], 0
	if kind == "precommit" && id != "none" {
		time = l.r.Intn(3000)
	}
	l.say("vote %d %s %s %d %d %s %d", liar, to, kind, v.Height, round, id, time)
}

func (l *lot) ask(k int) {
	switch l.r.Intn(7) {
	case 0, 1:
		l.say("node %d", k)
	case 2:
		l.say("block %d %d", k, l.r.Intn(int(l.state(k).Height)+2))
	case 3:
		l.say("account? %d %d", k, l.someone())
	case 4:
		l.say("council %d", k)
	case 5:
		l.say("pool %d", k)
	case 6:
		l.say("%s", []string{"pending", "blame"}[l.r.Intn(2)])
	}
}

// nonsense is a line that can't be played, or is none.
func (l *lot) nonsense() {
	s := shapes[l.r.Intn(len(shapes))]
	all := strings.Fields(s.line)
	switch l.r.Intn(6) {
	case 0:
		all = all[:len(all)-1]
	case 1:
		all = append(all, "0")
	case 2:
		all[l.r.Intn(len(all))] = bad[l.r.Intn(len(bad))]
	case 3:
		all = []string{"#", s.line}
	case 4:
		all = []string{"start 0 1"}
	case 5:
		all = []string{"\t\r"}
	}
	if line := strings.Join(all, " "); s.early || len(all) == 1 {
		l.say("%s", line)
	}
}

// revive opens all nodes anew.
func (l *lot) revive() {
	l.t.Helper()
	for k := range l.honest() {
		l.must("crash %d 0 9 9 9 9 9 9", k)
	}
}

// askAll asks for all that a script can ask for.
func (l *lot) askAll() {
	for k := range l.honest() {
		l.say("node %d", k)
		l.say("council %d", k)
		l.say("pool %d", k)
		for h := range l.state(k).Height + 2 {
			l.say("block %d %d", k, h)
		}
		for _, a := range l.state(k).Ledger.Accounts {
			l.say("account? %d %d", k, a.Addr)
		}
	}
	l.say("pending")
	l.say("blame")
}

// heights are what the nodes say of theirs, the least and the greatest.
func (l *lot) heights() (least, most int) {
	l.t.Helper()
	least = 1 << 40
	for k := range l.honest() {
		h := numbers(l.must("node %d", k))["height"]
		least, most = min(least, h), max(most, h)
	}
	return least, most
}

// goOn is W5: so many rounds as chapter 18 reckons, at most, and each node is above where any was.
func (l *lot) goOn() {
	l.t.Helper()
	least, most := l.heights()
	q, round := l.m.g.Params, 0
	for k := range l.honest() {
		round = max(round, l.view(k).Round)
	}
	last := max(uint64(round), 16+4*q.Resend) + 22*uint64(l.members) + 4
	limit := uint64(most-least)*(q.Resend+6) + q.Pause + 8*q.Resend + 64 + (last+1)*(last+2)/2*(q.Propose+3*q.Votes) + 8
	for n := uint64(0); n <= limit; n += 25 {
		if now, _ := l.heights(); now > most {
			return
		}
		l.must("rounds 25")
	}
	l.t.Fatalf("W5: not all go on from %d in %d rounds", most, limit)
}

// numbers are those that stand behind the words of an answer.
func numbers(told string) map[string]int {
	all := map[string]int{}
	words := strings.Fields(told)
	for k := 1; k < len(words); k++ {
		if n, err := strconv.Atoi(words[k]); err == nil {
			all[words[k-1]] = n
		}
	}
	return all
}

// wantWhole is W1 to W4, as far as the lines of a script and what Run answers to them show it.
func (l *lot) wantWhole(agree bool) {
	l.t.Helper()
	type at struct{ node, height string }
	own, everywhere, high := map[at]string{}, map[string]string{}, map[string]int{}
	rest := console.Run(l.script.String())
	for k, line := range l.lines {
		told := rest[:len(l.told[k])] // the model has told as much: end has seen to it
		rest = rest[len(told):]
		w := strings.Fields(line)
		if len(w) == 0 || strings.HasPrefix(told, "error") {
			continue
		}
		switch w[0] {
		case "block":
			if was, there := own[at{w[1], w[2]}]; there && was != told {
				l.t.Fatalf("W3: node %s has told %q, and tells %q", w[1], was, told)
			}
			own[at{w[1], w[2]}] = told
			id := strings.Fields(told)[2]
			if was, there := everywhere[w[2]]; agree && there && was != id {
				l.t.Fatalf("W1: of %s two blocks are told, %s and %s", w[2], was, id)
			}
			everywhere[w[2]] = id
		case "node":
			h := numbers(told)["height"]
			if h < high[w[1]] {
				l.t.Fatalf("W3: node %s was at %d: %q", w[1], high[w[1]], told)
			}
			high[w[1]] = h
		case "account?":
			if a, _ := strconv.Atoi(w[2]); a >= 11 && a < 11+l.honest() && strings.Contains(told, "jailed") {
				l.t.Fatalf("W4: one who is honest: %q", told)
			}
		}
	}
	for k := range l.honest() {
		time := -1
		for h := 1; h <= high[strconv.Itoa(k)]; h++ {
			told, there := own[at{strconv.Itoa(k), strconv.Itoa(h)}]
			now := numbers(told)["time"]
			if there && now <= time {
				l.t.Fatalf("W2: %q behind the time %d", told, time)
			}
			if there {
				time = now
			}
		}
	}
}

// wantSums is W2 of a node behind all: nothing is made or lost, and each transaction stands in the chain once.
func (l *lot) wantSums(k int) (txs int) {
	l.t.Helper()
	all, supply, nonces := 0, 300*(l.members+2), 0
	for _, p := range l.powers {
		supply += int(p)
	}
	for _, a := range l.state(k).Ledger.Accounts {
		n := numbers(l.must("account? %d %d", k, a.Addr))
		all, nonces = all+n["balance"]+n["bond"], nonces+n["nonce"]
	}
	for h := 1; h <= int(l.state(k).Height); h++ {
		txs += numbers(l.must("block %d %d", k, h))["txs"]
	}
	if all > supply || l.calm && all != supply || nonces != txs {
		l.t.Errorf("W2: %d of %d are there; nonces are %d together, transactions %d", all, supply, nonces, txs)
	}
	return txs
}

// TestWhole: scripts in which messages are lost, doubled, late and turned round, in which liars lie, disks fail at whatever call and lines are no lines answer what the model does; and what is promised of the whole holds in what they tell.
func TestWhole(t *testing.T) {
	const plays = 40
	all, txs := make([]*lot, plays), make([]int, plays)
	t.Run("seeds", func(t *testing.T) {
		for seed := range all {
			t.Run(strconv.Itoa(seed), func(t *testing.T) {
				t.Parallel()
				l := newLot(t, int64(seed))
				all[seed] = l
				for range 3 {
					for range 180 {
						l.stir(seed%3 > 0)
					}
					l.revive()
					l.say("rounds %d", l.r.Intn(20))
				}
				l.revive()
				if l.quiet {
					l.goOn()
				}
				l.askAll()
				for k := range l.honest() {
					txs[seed] += l.wantSums(k)
				}
				l.end("the model")
				l.wantWhole(true)
				if l.script.Len() > api.MaxText {
					t.Errorf("the script has %d bytes", l.script.Len())
				}
			})
		}
	})
	if t.Failed() {
		return
	}
	seen, most, sum := map[string]int{}, 0, 0
	for seed, l := range all {
		for k, line := range l.lines {
			kind, _, _ := strings.Cut(l.told[k], " ")
			if w := strings.Fields(line); len(w) > 0 && grammar[w[0]] != "" {
				seen[w[0]+" "+strings.TrimSpace(kind)]++
			}
			if strings.HasPrefix(l.told[k], "error") {
				seen[l.told[k]]++
			}
		}
		_, h := l.heights()
		most, sum = max(most, h), sum+txs[seed]
	}
	for _, what := range []string{
		"deliver ok", "again ok", "drop ok", "tick ok", "rounds ok", "fail ok", "crash ok", "pay ok", "bond ok", "unbond ok", "free ok", "vote ok", "propose ok", "node node", "block block", "account? account", "council member", "pool pool",
		"error 3\n", "error 63\n", "error 70\n", "error 85\n", "error 93\n", "error 133\n", "error 200\n", "error 201\n",
	} {
		if seen[what] == 0 {
			t.Errorf("%q was never seen: %v", what, seen)
		}
	}
	if most < 15 || sum < 100 {
		t.Errorf("they come to the height %d, with %d transactions", most, sum)
	}
}

// prevoted is what a node has prevoted last at the height where it stands.
func (l *lot) prevoted(k int) (last api.Vote, found bool) {
	for _, msg := range l.m.c.Signed(l.m.addrs[k]) {
		if _, v, e := wire.ReadVoteBytes(msg); e == api.OK && v.Kind == api.Prevote && v.Height == l.view(k).Height {
			last, found = v, true
		}
	}
	return last, found
}

// assist has the liars serve a node: they propose to it alone, and vote for what it has prevoted.
func (l *lot) assist(k int) {
	served := func(m message) bool { return m.to == k && m.from >= l.honest() }
	view := l.view(k)
	if who, _ := council.Proposer(l.state(k).Council, view.Round); view.Step == api.StepPropose {
		if liar := slices.Index(l.m.addrs, who); liar >= l.honest() {
			l.say("propose %d %d %d %d", liar, k, k, view.Round)
			l.take(served)
		}
	}
	v, ok := l.prevoted(k)
	for liar := l.honest(); ok && liar < l.members; liar++ {
		time := 0
		if v.Id != (api.Hash{}) {
			time = int(l.state(k).Time) + 1 + l.r.Intn(9)
		}
		l.say("vote %d %d prevote %d %d %x 0", liar, k, v.Height, v.Round, v.Id)
		if l.r.Intn(3) > 0 {
			l.say("vote %d %d precommit %d %d %x %d", liar, k, v.Height, v.Round, v.Id, time)
		}
	}
	l.take(served)
}

// TestForks is W6: scripts in which more than a third lies, but less than two thirds, and keeps the honest nodes apart; nobody honest is named, and enough of the others.
func TestForks(t *testing.T) {
	const plays = 24
	forked := make([]bool, plays)
	t.Run("seeds", func(t *testing.T) {
		for seed := range forked {
			t.Run(strconv.Itoa(seed), func(t *testing.T) {
				t.Parallel()
				r := rand.New(rand.NewSource(int64(1000 + seed)))
				honest, liars := 2+r.Intn(3), 1+r.Intn(3)
				l := &lot{r: r, members: honest + liars, liars: liars}
				l.scene = newScene(t, "param propose 1\nparam votes 1\nparam pause 1\nparam resend 20\n"+l.accounts(func(k int) uint64 {
					if k < honest {
						return 10
					}
					return uint64((20*honest - 1 - r.Intn(5*honest)) / liars)
				}))
				for range 250 {
					k := r.Intn(honest)
					switch n := r.Intn(10); {
					case n < 5:
						l.say("tick %d %d", k, 1+r.Intn(3))
					case n < 8:
						l.assist(k)
					case n < 9:
						l.drop(func(m message) bool { return m.from < honest && r.Intn(8) > 0 })
					default:
						l.take(func(m message) bool { return m.to == k && r.Intn(3) == 0 })
					}
				}
				forked[seed] = l.wantBlame()
				l.askAll()
				l.end("the model")
				l.wantWhole(false)
			})
		}
	})
	many := 0
	for _, yes := range forked {
		if yes {
			many++
		}
	}
	if many < plays/2 && !t.Failed() {
		t.Errorf("the nodes differ in %d plays", many)
	}
}

// wantBlame is W6 of what blame answers where all honest nodes are alive; it tells whether two nodes differ.
func (l *lot) wantBlame() bool {
	l.t.Helper()
	told := l.say("blame")
	if told == "error 133\n" {
		return false
	}
	powers, named := l.forkPowers(), uint64(0)
	for line := range strings.Lines(told) {
		w := strings.Fields(line)
		if len(w) != 3 || w[0] != "guilt" || w[2] != "twice" && w[2] != "forgets" {
			l.t.Fatalf("blame: %q", told)
		}
		if a, _ := strconv.Atoi(w[1]); a < 11+l.honest() {
			l.t.Fatalf("W6: the honest %d is named", a)
		}
		named += powers[w[1]]
	}
	if 3*named <= powers["all"] {
		l.t.Fatalf("W6: %d of %d are named: %q", named, powers["all"], told)
	}
	return true
}

// forkPowers are the powers in the council of the least height at which two nodes tell unlike blocks.
func (l *lot) forkPowers() map[string]uint64 {
	l.t.Helper()
	for h := uint64(1); h < 1000; h++ {
		ids := map[string]int{}
		teller := -1
		for k := range l.honest() {
			if told := l.say("block %d %d", k, h); !strings.HasPrefix(told, "error") {
				teller = k
				ids[strings.Fields(told)[2]]++
			}
		}
		if len(ids) < 2 {
			continue
		}
		powers := map[string]uint64{}
		told, _ := l.m.c.Light(teller, h)
		for _, m := range told.Council.Members {
			powers[fmt.Sprint(m.Addr)] = m.Power
			powers["all"] += m.Power
		}
		return powers
	}
	l.t.Fatal("no two differ")
	return nil
}

// TestAgain is K1 and W9: the same script answers the same, whatever else was played, and nodes that are opened anew say of themselves what they said.
func TestAgain(t *testing.T) {
	for seed := range int64(6) {
		l := newLot(t, 500+seed)
		for range 250 {
			l.stir(true)
			for k := range l.honest() {
				if l.r.Intn(12) > 0 || l.m.c.Dead(k) {
					continue
				}
				was := l.must("node %d", k)
				l.must("crash %d %d", k, l.r.Intn(256))
				if now := l.must("node %d", k); now != was {
					t.Fatalf("W9: opened anew, %q, it was %q", now, was)
				}
			}
		}
		l.end("W9")
		one := console.Run(l.script.String())
		console.Run(four + "rounds 50\n")
		if two := console.Run(l.script.String()); one != two {
			t.Errorf("K1: the same script answers another thing")
		}
	}
}
