package console_test

import (
	"slices"
	"strings"
	"testing"

	"assent/console"
)

// shape is a command: words that may stand behind it, whether more may follow, and whether it is one for ahead of start.
type shape struct {
	line  string
	more  bool
	early bool
}

// shapes are all commands of the chapter's table. None of the lines that are for behind start is refused behind the beginning and some rounds.
var shapes = []shape{
	{line: "chain c 1", early: true},
	{line: "account 50 1 1", early: true},
	{line: "param age 8", early: true},
	{line: "start 0 11", early: true, more: true},
	{line: "deliver 0"},
	{line: "again 0"},
	{line: "drop 0"},
	{line: "tick 0 1"},
	{line: "rounds 1"},
	{line: "fail 0 1 fault"},
	{line: "fail 0 1 power"},
	{line: "fail 0 1 done"},
	{line: "crash 0 0", more: true},
	{line: "pay 0 40 41 30 2"},
	{line: "bond 0 40 30 2"},
	{line: "unbond 0 11 3 2"},
	{line: "free 0 11 0"},
	{line: "vote 3 0 prevote 2 0 none 0"},
	{line: "propose 3 all 0 0"},
	{line: "pending"},
	{line: "node 0"},
	{line: "block 0 1"},
	{line: "account? 0 11"},
	{line: "council 0"},
	{line: "pool 0"},
	{line: "blame"},
}

// begin is the beginning, and rounds behind which each node has decided, and something is under way.
const begin = four + "rounds 11\n"

// lastLine is what the last line of a script answers, whose answer is one line.
func lastLine(script string) string {
	all := strings.Split(strings.TrimSuffix(console.Run(script), "\n"), "\n")
	return all[len(all)-1]
}

// wantLast: a line answers that, ahead of start and behind it.
func wantLast(t *testing.T, what, line, ahead, behind string) {
	t.Helper()
	if got := console.Run(line + "\n"); got != ahead+"\n" {
		t.Errorf("%s: %q ahead of start answers %q, want %q", what, line, got, ahead)
	}
	if got := answer(t, begin, line+"\n"); got != behind+"\n" {
		t.Errorf("%s: %q behind start answers %q, want %q", what, line, got, behind)
	}
}

// TestState: ErrState, of each command where it may not stand; all else is in order where it may.
func TestState(t *testing.T) {
	for _, s := range shapes {
		ahead, behind := console.Run(s.line), answer(t, begin, s.line)
		if s.early {
			ahead, behind = behind, ahead
		}
		if ahead != "error 3\n" || strings.HasPrefix(behind, "error 3\n") {
			t.Errorf("ErrState: %q answers %q and %q", s.line, ahead, behind)
		}
		// Of the table nothing is refused here but two: to start with nobody in the council, and to blame where no two differ.
		if name, _, _ := strings.Cut(s.line, " "); strings.HasPrefix(behind, "error") != (name == "start" || name == "blame") {
			t.Errorf("The table: %q answers %q", s.line, behind)
		}
	}
	refused := "start 0\nnode 0\nstart 0 9\nnode 0\naccount 9 9 9\nstart 0 9\nstart 0 9\naccount 8 8 8\nnode 0\n"
	if got, want := console.Run(refused), "error 2\nerror 3\nerror 53\nerror 3\nok\nok\nerror 3\nerror 3\nnode 0 height 0 round 0 step 0 locked -1 valid -1 clock 1\n"; got != want {
		t.Errorf("ErrState: a start that is refused is none: %q", got)
	}
}

// TestCounts: ErrLine, by the number of words alone, whatever they are, wherever the line stands.
func TestCounts(t *testing.T) {
	for _, s := range shapes {
		all := strings.Fields(s.line)
		for n := 1; n < len(all); n++ {
			if name := all[0]; name == "start" && n >= 2 {
				continue // addresses may be missing: that is for New to say
			}
			wantLast(t, "ErrLine", strings.Join(all[:n], " "), "error 201", "error 201")
			wantLast(t, "ErrLine", strings.Join(append([]string{all[0]}, slices.Repeat([]string{"\xff"}, n-1)...), " "), "error 201", "error 201")
		}
		if s.more {
			continue
		}
		for _, rest := range []string{" 0", " x", " 0 0", strings.Repeat(" 0", 100), " \x00"} {
			wantLast(t, "ErrLine", s.line+rest, "error 201", "error 201")
			wantLast(t, "ErrLine", all[0]+strings.Repeat(" ?", len(all)-1)+rest, "error 201", "error 201")
		}
	}
	for _, rest := range []string{"", " 1", " 1 2 3 4 5 6 7 8 9", " x", " # 1"} {
		wantLast(t, "ErrWord is ahead of ErrLine", "jump"+rest, "error 200", "error 200")
	}
	is(t, "Many words", "crash 0 0"+strings.Repeat(" 7", 30000), "ok\n")
	if got := console.Run("account 1 1 1\nstart 0" + strings.Repeat(" 1", 30000)); got != "ok\nerror 2\n" {
		t.Errorf("Many words: %q", got)
	}
}

// TestKinds: ErrWord, of each word of each command, ahead of ErrState and of what a call answers.
func TestKinds(t *testing.T) {
	for _, s := range shapes {
		all := strings.Fields(s.line)
		for k := 1; k < len(all); k++ {
			if all[0] == "chain" && k == 1 {
				continue // any word is a name
			}
			for _, word := range []string{"x", "-1", "01", "18446744073709551616", "\xff", "@", "?"} {
				one := slices.Clone(all)
				one[k] = word
				wantLast(t, "ErrWord", strings.Join(one, " "), "error 200", "error 200")
				// All numbers wrong beside: what the call would say is not heard.
				for j := 1; j < len(one); j++ {
					if one[j][0] >= '0' && one[j][0] <= '9' && j != k && !(all[0] == "crash" && j == 2) {
						one[j] = "7777777777777777777"
					}
				}
				wantLast(t, "ErrWord", strings.Join(one, " "), "error 200", "error 200")
			}
		}
	}
	wantLast(t, "ErrWord", "start 0 11 12 x", "error 200", "error 200")
	wantLast(t, "ErrWord", "start 0 0 0 x", "error 200", "error 200")
	wantLast(t, "ErrWord", "crash 9 0 1 2 x", "error 200", "error 200")
	wantLast(t, "ErrWord", "vote 9 9 prevote 0 99999999 @9:9x 0", "error 200", "error 200")
	wantLast(t, "ErrState", "vote 9 9 prevote 0 99999999 @9:9 0", "error 3", "error 180")
	wantLast(t, "ErrState", "start 9 0 0", "error 2", "error 3")
}

// TestCalls: what the calls answer, the first that applies.
func TestCalls(t *testing.T) {
	const dead = "fail 0 1 power\nrounds 9\n"
	for _, x := range []struct{ what, ahead, line, want string }{
		{"deliver", "", "deliver 500", "error 2"},
		{"again", "", "again 500", "error 2"},
		{"drop", "", "drop 500", "error 2"},
		{"rounds", "", "rounds 65537", "error 2"},
		{"rounds", "", "rounds 0", "ok"},
		{"tick", "", "tick 3 1", "error 180"},
		{"tick", dead, "tick 0 1", "ok"},
		{"fail", "", "fail 3 0 fault", "error 180"},
		{"fail", dead, "fail 0 0 fault", "error 63"},
		{"fail", "", "fail 0 0 fault", "error 2"},
		{"crash", "", "crash 3 0", "error 180"},
		{"pay: no node, ahead of what is not plain", "", "pay 3 0 0 0 0", "error 180"},
		{"pay: not plain, ahead of a dead node", dead, "pay 0 11 0 0 0", "error 41"},
		{"pay: dead", dead, "pay 0 11 12 0 0", "error 70"},
		{"pay: nobody", "", "pay 0 99 12 0 0", "error 85"},
		{"pay: too much", "", "pay 0 11 12 100 1", "error 93"},
		{"pay: all", "", "pay 0 11 12 99 1", "ok"},
		{"pay: no amount", "", "pay 0 11 12 1152921504606846976 1", "error 41"},
		{"pay: no fee", "", "pay 0 11 12 1 1152921504606846976", "error 41"},
		{"bond: from nobody", "", "bond 0 0 1 1", "error 41"},
		{"bond: too much", "", "bond 0 11 100 1", "error 93"},
		{"unbond: the fee alone is asked for", "", "unbond 0 11 500 100", "ok"},
		{"unbond: too dear", "", "unbond 0 11 1 101", "error 93"},
		{"free: too dear", "", "free 0 11 101", "error 93"},
		{"free: no such node", "", "free 7 11 1", "error 180"},
		{"vote: no block, ahead of no liar", "", "vote 0 9 prevote 0 0 @0:99 0", "error 133"},
		{"vote: no node that tells, ahead of no liar", "", "vote 0 9 prevote 0 0 @3:1 0", "error 180"},
		{"vote: a dead node tells nothing", dead, "vote 3 9 prevote 0 0 @0:1 0", "error 63"},
		{"vote: no liar, ahead of no node", "", "vote 0 9 prevote 0 0 none 0", "error 181"},
		{"vote: no place", "", "vote 4 9 prevote 0 0 none 0", "error 181"},
		{"vote: no node, ahead of what is not plain", "", "vote 3 9 prevote 0 0 none 0", "error 180"},
		{"vote: to a liar", "", "vote 3 3 prevote 1 0 none 0", "error 180"},
		{"vote: no height", "", "vote 3 all prevote 0 0 none 0", "error 41"},
		{"vote: no round", "", "vote 3 all prevote 1 65536 none 0", "error 41"},
		{"vote: a time in a prevote", "", "vote 3 all prevote 1 0 @0:1 1", "error 41"},
		{"vote: no time", "", "vote 3 all precommit 1 0 @0:1 1125899906842625", "error 41"},
		{"vote: the last time", "", "vote 3 all precommit 1 65535 @0:1 1125899906842624", "ok"},
		{"vote: to a dead node", dead, "vote 3 0 prevote 1 0 none 0", "ok"},
		{"propose: no node, ahead of no member", "", "propose 9 9 3 70000", "error 180"},
		{"propose: a dead node, ahead of no member", dead, "propose 9 9 0 70000", "error 63"},
		{"propose: no place, so no member", "", "propose 4 9 0 70000", "error 126"},
		{"propose: no liar, ahead of no node", "", "propose 0 9 0 70000", "error 181"},
		{"propose: to nobody, ahead of no round", "", "propose 3 9 0 70000", "error 180"},
		{"propose: to a liar", "", "propose 3 3 0 0", "error 180"},
		{"propose: no round", "", "propose 3 all 0 65536", "error 41"},
		{"propose: the last round", "", "propose 3 all 0 65535", "ok"},
		{"propose: to one", "", "propose 3 1 0 0", "ok"},
		{"node", "", "node 3", "error 180"},
		{"block: no node, ahead of no height", "", "block 3 0", "error 180"},
		{"block", "", "block 0 0", "error 133"},
		{"block", "", "block 0 99", "error 133"},
		{"block: dead", dead, "block 0 1", "error 63"},
		{"block: dead, and there was none", dead, "block 0 99", "error 133"},
		{"account?: no node, ahead of nobody", "", "account? 3 0", "error 180"},
		{"account?: nobody", "", "account? 0 0", "error 85"},
		{"account?: nobody", "", "account? 0 41", "error 85"},
		{"account?: dead", dead, "account? 0 40", "account 40 balance 500 bond 0 nonce 0"},
		{"council", "", "council 3", "error 180"},
		{"pool", "", "pool 3", "error 180"},
		{"pool: dead", dead, "pool 0", "pool 0"},
		{"blame", "", "blame", "error 133"},
		{"blame: a dead one", dead, "blame", "error 133"},
	} {
		if got := lastLine(begin + x.ahead + x.line); got != x.want {
			t.Errorf("%s: %q answers %q, want %q", x.what, x.line, got, x.want)
		}
	}
	for _, x := range []struct{ line, want string }{
		{"propose 3 all 0 0", "error 133"}, // no block stands ahead, so no certificate is there
		{"propose 9 9 0 70000", "error 133"},
		{"propose 9 9 3 70000", "error 180"},
		{"block 0 1", "error 133"},
		{"vote 3 all prevote 1 0 @0:1 0", "error 133"},
		{"vote 3 all prevote 1 0 @0:0 0", "error 133"},
	} {
		if got := lastLine(four + x.line); got != x.want {
			t.Errorf("At the beginning %q answers %q, want %q", x.line, got, x.want)
		}
	}
}

// TestBeginnings: what New and Begin say of what was said, the first that applies.
func TestBeginnings(t *testing.T) {
	const one = "account 1 1 1\n"
	for _, x := range []struct{ what, script, want string }{
		{"all is well", one + "start 0 1", "ok"},
		{"a machine of whom there is no account", one + "start 0 1 2", "ok"},
		{"none that is honest", one + "start 1 1", "error 2"},
		{"more liars than machines", one + "start 2 1", "error 2"},
		{"no machine, ahead of no account", "start 0", "error 2"},
		{"the machine 0", one + "start 0 1 0", "error 2"},
		{"a machine twice", one + "start 0 1 1", "error 2"},
		{"32 machines", one + "start 0 1 2 3 4 5 6 7 8 9 10 11 12 13 14 15 16 17 18 19 20 21 22 23 24 25 26 27 28 29 30 31 32", "ok"},
		{"33 machines", one + "start 0 1 2 3 4 5 6 7 8 9 10 11 12 13 14 15 16 17 18 19 20 21 22 23 24 25 26 27 28 29 30 31 32 33", "error 2"},
		{"a name of 16 bytes", one + "chain 0123456789abcdef 1\nstart 0 1", "ok"},
		{"a name of 17 bytes", one + "chain 0123456789abcdefg 1\nstart 0 1", "error 2"},
		{"a name of any bytes", one + "chain \x00\xff#%\x0b 1\nstart 0 1", "ok"},
		{"the last time", one + "chain c 1125899906842624\nstart 0 1", "ok"},
		{"a time behind that", one + "chain c 1125899906842625\nstart 0 1", "error 2"},
		{"a parameter, ahead of the accounts", "account 2 1 1\naccount 1 1 1\nparam age 0\nstart 0 1", "error 2"},
		{"accounts in another order", "account 2 1 1\naccount 1 1 1\nstart 0 1", "error 42"},
		{"an account twice", one + one + "start 0 1", "error 42"},
		{"the account 0", "account 0 1 1\nstart 0 1", "error 85"},
		{"too much", "account 1 1152921504606846976 1\nstart 0 1", "error 87"},
		{"too much bond", "account 1 1 1152921504606846976\nstart 0 1", "error 87"},
		{"together too much", "account 1 1152921504606846975 1\nstart 0 1", "error 87"},
		{"just enough", "account 1 1152921504606846974 1\nstart 0 1", "ok"},
		{"nobody in the council", "account 1 1 0\nstart 0 1", "error 53"},
		{"too little bond", one + "param minbond 2\nstart 0 1", "error 53"},
		{"no least bond", one + "param minbond 0\nstart 0 1", "error 2"},
		{"no seat", one + "param seats 0\nstart 0 1", "error 2"},
		{"64 seats", one + "param seats 64\nstart 0 1", "ok"},
		{"65 seats", one + "param seats 65\nstart 0 1", "error 2"},
		{"no slash", one + "param slash 0\nstart 0 1", "ok"},
		{"all of it", one + "param slash 1000\nstart 0 1", "ok"},
		{"more than that", one + "param slash 1001\nstart 0 1", "error 2"},
		{"period: age is 8", one + "param period 11\nstart 0 1", "ok"},
		{"period: age is 8", one + "param period 10\nstart 0 1", "error 2"},
		{"age: period is 16", one + "param age 13\nstart 0 1", "ok"},
		{"age: period is 16", one + "param age 14\nstart 0 1", "error 2"},
		{"the greatest age", one + "param age 256\nparam period 259\nstart 0 1", "ok"},
		{"above that", one + "param age 257\nparam period 300\nstart 0 1", "error 2"},
		{"the greatest period", one + "param period 4294967296\nstart 0 1", "ok"},
		{"above that", one + "param period 4294967297\nstart 0 1", "error 2"},
		{"no transactions", one + "param maxtxs 0\nstart 0 1", "ok"},
		{"1000", one + "param maxtxs 1000\nstart 0 1", "ok"},
		{"1001", one + "param maxtxs 1001\nstart 0 1", "error 2"},
		{"propose", one + "param propose 0\nstart 0 1", "error 2"},
		{"votes", one + "param votes 0\nstart 0 1", "error 2"},
		{"resend", one + "param resend 0\nstart 0 1", "error 2"},
		{"trusting", one + "param trusting 0\nstart 0 1", "error 2"},
		{"pause", one + "param pause 0\nstart 0 1", "ok"},
		{"drift", one + "param drift 0\nstart 0 1", "ok"},
		{"propose", one + "param propose 4294967297\nstart 0 1", "error 2"},
		{"votes", one + "param votes 4294967297\nstart 0 1", "error 2"},
		{"pause", one + "param pause 4294967297\nstart 0 1", "error 2"},
		{"resend", one + "param resend 4294967297\nstart 0 1", "error 2"},
		{"trusting", one + "param trusting 4294967297\nstart 0 1", "error 2"},
		{"drift", one + "param drift 4294967297\nstart 0 1", "error 2"},
		{"all ticks", one + "param propose 4294967296\nparam votes 4294967296\nparam pause 4294967296\nparam resend 4294967296\nparam trusting 4294967296\nparam drift 4294967296\nstart 0 1", "ok"},
		{"what was said last counts", one + "param age 0\nparam age 8\nchain 0123456789abcdefg 0\nchain c 0\nstart 0 1", "ok"},
		{"a refused start changes nothing", one + "start 0\nstart 1 1\nparam age 0\nstart 0 1\nparam age 8\nstart 0 1", "ok"},
	} {
		if got := lastLine(x.script); got != x.want {
			t.Errorf("%s: %q answers %q, want %q", x.what, x.script, got, x.want)
		}
	}
}
