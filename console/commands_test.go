package console_test

import (
	"fmt"
	"strings"
	"testing"

	"assent/api"
	"assent/console"
)

// TestDefaults: who says all that is taken for granted says nothing new.
func TestDefaults(t *testing.T) {
	const all = "chain c 1\nparam minbond 1\nparam seats 64\nparam slash 100\nparam period 16\nparam age 8\nparam maxtxs 100\nparam propose 6\nparam votes 4\nparam pause 2\nparam resend 5\nparam trusting 1000\nparam drift 10\n"
	const life = "rounds 20\nvote 3 all prevote 4 0 none 0\nvote 3 all prevote 4 0 @0:1 0\nunbond 0 11 2 1\npay 1 40 41 7 2\nrounds 90\nnode 0\nnode 1\nblock 0 9\nblock 1 16\ncouncil 0\naccount? 0 11\naccount? 0 14\n"
	if one, two := answer(t, four, life), answer(t, all+four, life); one != two {
		t.Errorf("The genesis: %q, with all said %q", one, two)
	}
	// More transactions than one block takes: seven accounts, sixteen each.
	crowd, pays := "", ""
	for a := 11; a <= 17; a++ {
		crowd += fmt.Sprintf("account %d 100 5\n", a)
		pays += strings.Repeat(fmt.Sprintf("pay 0 %d 20 1 0\n", a), 16)
	}
	crowd += "start 0 11 12 13 14 15 16 17\n"
	for _, beginning := range []string{crowd, all + crowd} {
		told := answer(t, beginning, pays+"rounds 8\nblock 0 1\npool 0\n")
		if rest := strings.TrimPrefix(told, strings.Repeat("ok\n", 113)); !strings.Contains(rest, " txs 100 ") || !strings.HasSuffix(rest, "\npool 12\n") {
			t.Errorf("The genesis: of 112 transactions %q", rest)
		}
	}
}

// TestGenesis: what chain, account and param say is what the cluster begins with.
func TestGenesis(t *testing.T) {
	const two = "account 3 7 5\naccount 4 8 6\naccount 5 9 4\n"
	wantSaid(t, "chain",
		says("chain d 900", "ok"), says("account 1 1 1", "ok"), says("start 0 1", "ok"),
		says("node 0", "node 0 height 0 round 0 step 0 locked -1 valid -1 clock 900"),
		says("rounds 2", "ok"),
		says("block 0 1", "block 1 "+blockId(t, "chain d 900\naccount 1 1 1\nstart 0 1\n")+" round 0 time 900 txs 0 evidence 0 by 1"))
	if blockId(t, "chain d 900\naccount 1 1 1\nstart 0 1\n") == blockId(t, "chain e 900\naccount 1 1 1\nstart 0 1\n") {
		t.Errorf("chain: two names have one block")
	}
	wantSaid(t, "account",
		says(two+"start 0 3 4 5", "ok", "ok", "ok", "ok"),
		says("account? 0 3", "account 3 balance 7 bond 5 nonce 0"), says("account? 1 4", "account 4 balance 8 bond 6 nonce 0"), says("account? 2 5", "account 5 balance 9 bond 4 nonce 0"),
		says("council 0", "member 3 power 5", "member 4 power 6", "member 5 power 4"))
	wantSaid(t, "minbond", says(two+"param minbond 5\nstart 0 3", "ok", "ok", "ok", "ok", "ok"), says("council 0", "member 3 power 5", "member 4 power 6"))
	wantSaid(t, "seats", says(two+"param seats 1\nstart 0 3", "ok", "ok", "ok", "ok", "ok"), says("council 0", "member 4 power 6"))
}

// blockId is that of the first block of a beginning.
func blockId(t *testing.T, beginning string) string {
	t.Helper()
	words := strings.Fields(answer(t, beginning, "rounds 12\nblock 0 1\n"))
	if len(words) < 4 || words[1] != "block" {
		t.Fatalf("no block: %v", words)
	}
	return words[3]
}

// TestParams: each parameter that can be seen is the one of its name: the script answers what the model does, and not what it does without.
func TestParams(t *testing.T) {
	const evil = "rounds 20\nvote 3 all prevote 4 0 none 0\nvote 3 all prevote 4 0 @0:1 0\nrounds 40\naccount? 0 14\n"
	for _, x := range []struct{ param, script string }{
		{"minbond 6", "council 0\nbond 0 11 1 0\nrounds 60\ncouncil 0\n"},
		{"seats 3", "council 0\n"},
		{"slash 500", evil},
		{"slash 1000", evil},
		{"period 12", "unbond 0 11 2 0\nrounds 125\nnode 0\naccount? 0 11\n"},
		{"maxtxs 1", "pay 0 40 41 1 1\npay 0 40 41 1 1\nrounds 8\nblock 0 1\npool 0\n"},
		{"maxtxs 0", "pay 0 40 41 1 1\nrounds 8\nblock 0 1\npool 0\n"},
		{"propose 9", "tick 1 2\ntick 1 6\nnode 1\n"},
		{"votes 9", "rounds 40\nnode 0\n"},
		{"pause 3", "tick 0 2\nnode 0\n"},
		{"pause 0", "tick 0 0\nnode 0\n"},
		{"resend 9", "tick 1 5\npending\n"},
	} {
		beginning := four
		if name := strings.Fields(x.param)[0]; name == "minbond" {
			beginning = strings.Replace(four, "account 12 100 5", "account 12 100 9", 1)
		}
		said := "param " + x.param + "\n" + beginning + x.script
		if got := wantModel(t, x.param, said); got == "ok\n"+console.Run(beginning+x.script) {
			t.Errorf("param %s makes no difference: %q", x.param, got)
		}
	}
}

// TestAge: evidence that only the node 2 has comes into a block of its own, if it is not too old by then.
func TestAge(t *testing.T) {
	for age, want := range map[string]string{"8": "account 14 balance 100 bond 5 nonce 0 jailed\n", "1": "account 14 balance 100 bond 5 nonce 0\n"} {
		s := newScene(t, "param age "+age+"\n"+four+"rounds 18\n")
		s.must("vote 3 2 prevote 4 0 none 0")
		s.must("vote 3 2 prevote 4 0 @0:1 0")
		for range 60 {
			s.must("rounds 1")
			s.drop(func(m message) bool { return m.Kind == api.MsgEvidence })
		}
		if got := s.must("account? 0 14"); got != want {
			t.Errorf("param age %s: %q, want %q", age, got, want)
		}
		s.end("param age " + age)
	}
}

// TestDeliver: deliver takes a message off and hands it over, again leaves it, drop only takes it off.
func TestDeliver(t *testing.T) {
	const sent = "tick 0 2\npending\n" // a proposal and a prevote, to two each
	wantSaid(t, "C3", begun(
		says(strings.TrimSuffix(sent, "\n"), "ok", "pending 4"),
		says("tick 1 2", "ok"), says("pending", "pending 4"),
		says("node 1", "node 1 height 0 round 0 step 1 locked -1 valid -1 clock 3"),
		says("again 0", "ok"), says("pending", "pending 6"),
		says("node 1", "node 1 height 0 round 0 step 2 locked -1 valid -1 clock 3"),
		says("again 0", "ok"), says("pending", "pending 6"),
		says("deliver 0", "ok"), says("pending", "pending 5"),
		says("drop 5", "error 2"), says("drop 4", "ok"), says("drop 4", "error 2"), says("pending", "pending 4"),
		says("drop 0", "ok"), says("drop 0", "ok"), says("drop 0", "ok"), says("drop 0", "ok"), says("drop 0", "error 2"), says("deliver 0", "error 2"), says("again 0", "error 2"),
		says("pending", "pending 0"),
		says("node 2", "node 2 height 0 round 0 step 0 locked -1 valid -1 clock 1"))...)
}

// TestTick: a clock goes on by as much, at most to its end; the others stand still.
func TestTick(t *testing.T) {
	wantSaid(t, "C4", begun(
		says("tick 0 0", "ok"), says("node 0", "node 0 height 0 round 0 step 0 locked -1 valid -1 clock 1"),
		says("tick 1 1", "ok"), says("node 1", "node 1 height 0 round 0 step 0 locked -1 valid -1 clock 2"),
		says("tick 1 18446744073709551615", "ok"), says("node 1", "node 1 height 0 round 0 step 1 locked -1 valid -1 clock 1125899906842624"),
		says("tick 1 1", "ok"), says("node 1", "node 1 height 0 round 0 step 2 locked -1 valid -1 clock 1125899906842624"),
		says("node 0", "node 0 height 0 round 0 step 0 locked -1 valid -1 clock 1"))...)
}

// TestTroubles: the disk of a node is what fail and crash say.
func TestTroubles(t *testing.T) {
	const idle = "node 0 height 0 round 0 step 0 locked -1 valid -1 clock 3"
	told := answer(t, four, "rounds 9\nfail 0 1 fault\nrounds 9\nnode 0\nblock 0 1\nblock 1 1\ncrash 0 0\nnode 0\nblock 0 1\n")
	l := strings.Split(told, "\n")
	if !strings.HasSuffix(l[3], " dead") || !strings.HasPrefix(l[4], "block 1 ") || l[4] != l[5] || l[7]+" dead" != l[3] || l[8] != l[4] {
		t.Errorf("a fault, with which the disk stays on: %q", told)
	}
	told = answer(t, four, "rounds 9\nfail 0 1 power\nrounds 9\nblock 1 1\nblock 0 1\ncrash 0 0\nblock 0 1\n")
	if l = strings.Split(told, "\n"); !strings.HasPrefix(l[3], "block 1 ") || l[4] != "error 63" || l[6] != l[3] {
		t.Errorf("a loss of power: %q", told)
	}
	// The record of the height's beginning is the first call: behind a loss of power with it done it may be there, without it is not.
	for kind, want := range map[string]string{
		"power": "node 0 height 0 round 0 step 0 locked -1 valid -1 clock 3",
		"done":  "node 0 height 0 round 0 step 2 locked -1 valid -1 clock 3",
	} {
		wantSaid(t, kind, begun(
			says("fail 0 1 "+kind, "ok"), says("tick 0 2", "ok"), says("node 0", idle+" dead"), says("pending", "pending 0"), says("block 0 1", "error 133"),
			says("crash 0 0 1000", "ok"), says("node 0", want))...)
		wantSaid(t, kind+", and nothing is kept", begun(
			says("fail 0 1 "+kind, "ok"), says("tick 0 2", "ok"), says("crash 0 0 0 1000", "ok"), says("node 0", idle))...)
		wantSaid(t, kind+", and a byte is spoilt", begun(
			says("fail 0 1 "+kind, "ok"), says("tick 0 2", "ok"), says("crash 0 1 1000", "ok"), says("node 0", idle))...)
	}
	wantSaid(t, "the second call, synced: it is there whatever is kept", begun(
		says("fail 0 2 done", "ok"), says("tick 0 2", "ok"), says("node 0", idle+" dead"), says("crash 0 255", "ok"),
		says("node 0", "node 0 height 0 round 0 step 2 locked -1 valid -1 clock 3"))...)
	wantSaid(t, "a crash by itself", begun(
		says("tick 0 2", "ok"), says("pending", "pending 4"), says("crash 0 0", "ok"),
		says("node 0", "node 0 height 0 round 0 step 2 locked -1 valid -1 clock 3"),
		says("pending", "pending 8"))...) // what was sent is sent again
}

// TestPayments: a transaction has the nonce that is next behind a node's ledger and its pool.
func TestPayments(t *testing.T) {
	wantSaid(t, "pay", begun(
		says("pay 0 40 41 1 1", "ok"), says("pool 0", "pool 1"), says("pool 1", "pool 0"),
		says("pay 0 40 42 2 1", "ok"), says("pay 0 40 41 3 9", "ok"), says("pool 0", "pool 3"),
		says("pay 0 12 41 4 1", "ok"), says("pool 0", "pool 4"), says("account? 0 40", "account 40 balance 500 bond 0 nonce 0"),
		says("rounds 8", "ok"), says("pool 0", "pool 0"),
		says("account? 0 40", "account 40 balance 483 bond 0 nonce 3"), says("account? 0 41", "account 41 balance 8 bond 0 nonce 0"), says("account? 2 42", "account 42 balance 2 bond 0 nonce 0"), says("account? 1 12", "account 12 balance 95 bond 5 nonce 1"),
		says("account? 0 11", "account 11 balance 112 bond 5 nonce 0"), // the fees, for it proposed
		says("pay 1 40 41 1 0", "ok"), says("pay 1 40 41 1 0", "ok"), says("pool 1", "pool 2"), says("pool 0", "pool 0"),
		says("rounds 12", "ok"), says("account? 0 40", "account 40 balance 481 bond 0 nonce 5"),
		says("pay 2 41 40 10 0", "ok"), says("rounds 12", "ok"), says("account? 0 41", "account 41 balance 0 bond 0 nonce 1"))...)
	many := begun()
	for k := range 18 {
		want := "ok"
		if k >= 16 {
			want = "error 92" // MaxAhead
		}
		many = append(many, says("pay 0 40 41 1 1", want))
	}
	wantSaid(t, "sixteen ahead", append(many, says("pool 0", "pool 16"), says("rounds 9", "ok"), says("pay 0 40 41 1 1", "ok"), says("rounds 9", "ok"), says("account? 0 41", "account 41 balance 17 bond 0 nonce 0"))...)
	wantSaid(t, "each node counts by itself", begun(
		says("pay 0 40 41 5 1", "ok"), says("pay 1 40 42 6 2", "ok"), says("pay 2 40 43 7 3", "ok"), says("pool 0", "pool 1"), says("pool 1", "pool 1"), says("pool 2", "pool 1"),
		says("rounds 9", "ok"), says("account? 0 40", "account 40 balance 490 bond 0 nonce 1"), says("account? 0 43", "account 43 balance 7 bond 0 nonce 0"), says("account? 0 41", "error 85"), says("account? 0 42", "error 85"))...)
	wantSaid(t, "of nobody the nonce is 0, and it is refused", begun(says("pay 0 77 1 0 0", "error 85"), says("bond 0 77 0 0", "error 85"), says("unbond 0 77 0 0", "error 85"), says("free 0 77 0", "error 85"))...)
}

// TestBonds: bond, unbond and free are what they are called, with no amount that belongs to another.
func TestBonds(t *testing.T) {
	wantSaid(t, "bond, unbond", begun(
		says("bond 0 11 10 1", "ok"), says("unbond 0 11 4 1", "ok"), says("pool 0", "pool 2"), says("rounds 8", "ok"),
		says("account? 0 11", "account 11 balance 90 bond 11 nonce 2"), says("account? 1 11", "account 11 balance 90 bond 11 nonce 2"),
		says("bond 0 11 0 0", "ok"), says("unbond 0 11 12 0", "ok"), says("rounds 20", "ok"), says("account? 0 11", "account 11 balance 90 bond 11 nonce 3"), says("pool 0", "pool 1"), // more than there is: it waits for ever
		says("council 0", "member 11 power 11", "member 12 power 5", "member 13 power 5", "member 14 power 5"))...)
	jail := begun(
		says("rounds 20\nvote 3 all prevote 4 0 none 0\nvote 3 all prevote 4 0 @0:1 0\nrounds 30", "ok", "ok", "ok", "ok"),
		says("account? 0 14", "account 14 balance 100 bond 5 nonce 0 jailed"),
		says("council 0", "member 11 power 5", "member 12 power 5", "member 13 power 5"))
	wantSaid(t, "free", append(jail,
		says("free 0 14 1", "ok"), says("rounds 30", "ok"), says("account? 0 14", "account 14 balance 99 bond 5 nonce 1"),
		says("council 0", "member 11 power 5", "member 12 power 5", "member 13 power 5", "member 14 power 5"))...)
}

// TestFullDisk is G7: a node whose disk is full is dead for good; where it can't even be opened anew there is none, and whatever is asked of it is answered as by nobody.
func TestFullDisk(t *testing.T) {
	const one = "account 11 100 5\naccount 12 100 0\nparam pause 0\nparam resend 100000\nstart 1 11 12\n"
	told := answer(t, one, "rounds 30000\nnode 0\nblock 0 9\npay 0 11 12 1 1\ncrash 0 0\nnode 0\ncouncil 0\npool 0\naccount? 0 11\nblock 0 9\npay 0 11 12 1 1\npropose 1 all 0 0\nvote 1 all prevote 1 0 @0:1 0\nvote 1 all prevote 1 0 none 0\npending\nrounds 1\npending\ntick 0 1\nblame\ncrash 0 0\nnode 0\n")
	l := strings.Split(told, "\n")
	if !strings.HasSuffix(l[1], " clock 30001 dead") || !strings.HasPrefix(l[2], "block 9 ") || l[3] != "error 70" {
		t.Errorf("a full disk: %q", l[:4])
	}
	want := "error 62\nnode 0 height 0 round 0 step 0 locked 0 valid 0 clock 30001 dead\n" + // of its council there is no member, so no line
		"pool 0\nerror 85\nerror 1\nerror 1\nerror 1\nerror 1\nok\npending 1\nok\npending 0\nok\nerror 133\nerror 62\nnode 0 height 0 round 0 step 0 locked 0 valid 0 clock 30003 dead\n"
	if got := strings.Join(l[4:], "\n"); got != want {
		t.Errorf("where there is no node: %q, want %q", got, want)
	}
}

// TestProposals: a liar proposes, and votes; what comes of it stands in the chain.
func TestProposals(t *testing.T) {
	told := answer(t, four, "rounds 15\npropose 3 all 0 0\nrounds 3\nblock 0 4\nblock 1 4\nblock 2 4\n")
	l := strings.Split(told, "\n")
	if !strings.HasPrefix(l[3], "block 4 ") || !strings.HasSuffix(l[3], " round 0 time 12 txs 0 evidence 0 by 14") || l[4] != l[3] || l[5] != l[3] {
		t.Errorf("a liar's block: %q", told)
	}
	// To one alone, and in a round in which it is another's turn, it decides nothing.
	for _, line := range []string{"propose 3 0 0 0", "propose 3 all 0 1", "propose 3 all 0 2"} {
		told := answer(t, four, "rounds 15\n"+line+"\nrounds 3\nnode 0\nblock 0 4\n")
		if l := strings.Split(told, "\n"); !strings.HasPrefix(l[3], "node 0 height 3 ") || l[4] != "error 133" {
			t.Errorf("%s: %q", line, told)
		}
	}
	wantSaid(t, "pending", begun(
		says("vote 3 all prevote 1 0 none 0", "ok"), says("pending", "pending 3"), says("vote 3 1 precommit 9 7 none 0", "ok"), says("pending", "pending 4"),
		says("rounds 9", "ok"), says("propose 3 2 0 0", "ok"))...)
}
