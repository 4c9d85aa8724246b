package console_test

import (
	"fmt"
	"math"
	"strings"
	"testing"

	"assent/console"
)

// TestLines: where a line ends, what stands between words, and what is not looked at.
func TestLines(t *testing.T) {
	for script, want := range map[string]string{
		"pending":                       "pending 0\n",
		"pending\n":                     "pending 0\n",
		"\n\n\npending\n\n":             "pending 0\n",
		"pending\npending":              "pending 0\npending 0\n",
		"  \t\r pending \r\t \npending": "pending 0\npending 0\n",
		"pending\r\npending\r\n":        "pending 0\npending 0\n",
		"tick\t0\r1":                    "ok\n",
		"tick \t\r 0 \t\r 1 \t\r ":      "ok\n",
		"tick 0 1\rpending":             "error 201\n", // a byte 13 ends no line
		"pending # 1 2 3":               "pending 0\n",
		"pending #1 2 3":                "pending 0\n",
		"pending\t#":                    "pending 0\n",
		"# pending\npending":            "pending 0\n",
		"#pending":                      "",
		"#\n#\n##":                      "",
		" \t\r#\xff\x00\n \t\r":         "",
		"tick # 0 1":                    "error 201\n",
		"tick 0 # 1":                    "error 201\n",
		"tick 0 1 # 2":                  "ok\n",
		"tick 0 1# 2":                   "error 201\n", // no word begins with it
		"tick 0 1#":                     "error 200\n",
		"pending#":                      "error 200\n",
		"pend#ing":                      "error 200\n",
		"pending\x0b":                   "error 200\n", // no blank
		"pending\x0c":                   "error 200\n",
		"pending\x00":                   "error 200\n",
		"\x00":                          "error 200\n",
		"pending\u00a0":                 "error 200\n",
		"pending\u2003":                 "error 200\n",
		"pending\u0085":                 "error 200\n",
		"tick\x0b0 1":                   "error 200\n",
		"tick 0\x0c1":                   "error 201\n",
		"\xff\xfe":                      "error 200\n",
		"\xef\xbb\xbfpending":           "error 200\n",
		"Pending":                       "error 200\n",
		"PENDING":                       "error 200\n",
		"pendin":                        "error 200\n",
		"pendingg":                      "error 200\n",
		"'pending'":                     "error 200\n",
		"account 1":                     "error 201\n",
		"account?? 0 11":                "error 200\n",
		"ok":                            "error 200\n",
		"error 3":                       "error 200\n",
		"pending\n\x00\npending\njump\npending 1": "pending 0\nerror 200\npending 0\nerror 200\nerror 201\n",
	} {
		is(t, "Words", script, want)
	}
}

// good are words that are numbers, with what they are.
var good = map[string]uint64{
	"0": 0, "1": 1, "9": 9, "10": 10, "65536": 65536, "100000": 100000,
	"9223372036854775807": math.MaxInt64, "9223372036854775808": math.MaxInt64 + 1, "9999999999999999999": 9999999999999999999,
	"10000000000000000000": 10000000000000000000, "18446744073709551614": math.MaxUint64 - 1, "18446744073709551615": math.MaxUint64,
}

// bad are words that are no numbers.
var bad = []string{
	"00", "01", "007", "0000", "+1", "-1", "-0", "+0", "1.", "1.0", ".1", "1e3", "0x1", "0b1", "0o7", "1_0", "1,0", "1'0", "a", "1a", "a1", "f", "none", "all",
	"18446744073709551616", "18446744073709551617", "20000000000000000000", "99999999999999999999", "100000000000000000000", "36893488147419103232",
	"000000000000000000001", "\x00", "1\x00", "\x001", "\xff", "1\xff", "١", "１", "²", "½", "1\u200b", "\u200b1", "1#", "@0:1", "'1'",
	strings.Repeat("1", 21), strings.Repeat("9", 1000), strings.Repeat("0", 1000),
}

// TestNumbers: each number is taken as what it says, and nothing else is a number.
func TestNumbers(t *testing.T) {
	for word, n := range good {
		if n == 0 {
			continue // 0 is no account
		}
		want := fmt.Sprintf("account %s balance 5 bond 5 nonce 0\n", word)
		if got := answer(t, "account "+word+" 5 5\nstart 0 "+word+"\n", "account? 0 "+word+"\n"); got != want {
			t.Errorf("Numbers: %s answers %q", word, got)
		}
	}
	for _, word := range bad {
		for _, line := range []string{"account %s 5 5", "account 5 %s 5", "account 5 5 %s", "chain a %s", "param age %s", "start %s 5", "start 0 %s", "start 0 5 %s", "rounds %s", "tick 0 %s"} {
			line = strings.ReplaceAll(line, "%s", word)
			if got := console.Run(line); got != "error 200\n" {
				t.Errorf("Numbers: %.60q answers %q", line, got)
			}
		}
	}
}

// TestGreat: a number that no int holds is no node, no place, no limit lets it through; above all it is not taken for one that it is when it wraps.
func TestGreat(t *testing.T) {
	const rest = "rounds 12\ntick 0 20\n"
	for _, n := range []string{"9223372036854775807", "9223372036854775808", "9223372036854775809", "18446744073709551612", "18446744073709551614", "18446744073709551615", "4294967296", "4294967297"} {
		for line, want := range map[string]string{
			"deliver %s": "error 2", "again %s": "error 2", "drop %s": "error 2", "rounds %s": "error 2",
			"tick %s 1": "error 180", "fail %s 1 power": "error 180", "crash %s 0": "error 180", "pay %s 11 12 1 1": "error 180", "bond %s 11 1 1": "error 180",
			"unbond %s 11 1 1": "error 180", "free %s 11 1": "error 180", "node %s": "error 180", "block %s 1": "error 180", "account? %s 11": "error 180", "council %s": "error 180", "pool %s": "error 180",
			"vote %s all prevote 1 0 none 0": "error 181", "vote 3 %s prevote 1 0 none 0": "error 180", "vote 3 all prevote 1 %s none 0": "error 41", "vote 3 all prevote 1 0 @%s:1 0": "error 180",
			"propose %s all 0 0": "error 126", "propose 3 %s 0 0": "error 180", "propose 3 all %s 0": "error 180", "propose 3 all 0 %s": "error 41",
			"block 0 %s": "error 133", "vote 3 all prevote 1 0 @0:%s 0": "error 133", "crash 0 %s": "error 200",
		} {
			is(t, "Numbers", rest+strings.ReplaceAll(line, "%s", n), "ok\nok\n"+want+"\n")
		}
	}
	for n, want := range map[string]string{"1099511627776": "ok", "1099511627777": "error 41", "9223372036854775809": "error 41", "18446744073709551615": "error 41"} {
		is(t, "Numbers", "vote 3 all prevote "+n+" 0 none 0\n", want+"\n")
	}
	for n, want := range map[string]string{"4294967296": "ok", "4294967297": "error 2", "9223372036854775808": "error 2", "18446744073709551615": "error 2"} {
		is(t, "Numbers", "fail 0 "+n+" fault\n", want+"\n")
	}
	for _, line := range []string{"start 18446744073709551615 1", "param seats 18446744073709551615\nstart 0 1", "param seats 9223372036854775809\nstart 0 1", "param maxtxs 18446744073709551615\nstart 0 1", "param maxtxs 9223372036854775808\nstart 0 1"} {
		got := console.Run("account 1 1 1\n" + line)
		if want := strings.Repeat("ok\n", strings.Count(line, "\n")+1) + "error 2\n"; got != want {
			t.Errorf("Numbers: %q answers %q", line, got)
		}
	}
}

// TestIds: what is an id, and what it is.
func TestIds(t *testing.T) {
	const zeros = "0000000000000000000000000000000000000000000000000000000000000000"
	some := "0123456789abcdef" + zeros[:47] + "f"
	for id, want := range map[string]string{
		"none": "ok", zeros: "ok", some: "ok", strings.Repeat("f", 64): "ok", strings.Repeat("a", 64): "ok", strings.Repeat("9", 64): "ok", "@0:1": "ok", "@1:2": "ok",
		"@0:9": "error 133", "@0:0": "error 133", "@0:18446744073709551615": "error 133", "@3:1": "error 180", "@4:1": "error 180", "@18446744073709551615:1": "error 180",
	} {
		is(t, "Ids", "rounds 20\nvote 3 all prevote 1 0 "+id+" 0", "ok\n"+want+"\n")
	}
	for _, id := range []string{
		"None", "NONE", "non", "nonee", "no", "0", "1", "all", zeros[1:], zeros + "0", strings.ToUpper(some), zeros[1:] + "g", zeros[1:] + "F", zeros[1:] + "\x00", zeros[2:] + "é", "0x" + zeros[2:], "-" + zeros[1:], "+" + zeros[1:],
		"@", "@:", "@0", "@0:", "@:1", "@0:1:", "@0:1:2", "@@0:1", "@00:1", "@0:01", "@0:1a", "@a:1", "@-1:1", "@0:-1", "@+0:1", "0:1", "@0;1", "@0:none", "@all:1", "@none", "@0:18446744073709551616", "@18446744073709551616:1", "@" + zeros,
	} {
		is(t, "Ids", "rounds 20\nvote 3 all prevote 1 0 "+id+" 0", "ok\nerror 200\n")
		if got := console.Run("vote 3 all prevote 1 0 " + id + " 0"); got != "error 200\n" {
			t.Errorf("Ids: %q ahead of start answers %q", id, got)
		}
	}
	// A vote for none has no time, one for a block may have: so it shows what an id is taken for.
	for id, want := range map[string]string{"none": "error 41", zeros: "error 41", some: "ok", "@0:1": "ok"} {
		is(t, "Ids", "rounds 20\nvote 3 all precommit 1 0 "+id+" 7", "ok\n"+want+"\n")
	}
}

// TestChoices: words that must be one of a few.
func TestChoices(t *testing.T) {
	for line, want := range map[string]string{
		"fail 0 1 fault": "ok", "fail 0 1 power": "ok", "fail 0 1 done": "ok", "fail 0 1 Fault": "error 200", "fail 0 1 faul": "error 200", "fail 0 1 1": "error 200", "fail 0 1 none": "error 200", "fail 0 fault 1": "error 200",
		"vote 3 0 prevote 1 0 none 0": "ok", "vote 3 0 precommit 1 0 none 0": "ok", "vote 3 0 1 1 0 none 0": "error 200", "vote 3 0 Prevote 1 0 none 0": "error 200", "vote 3 0 propose 1 0 none 0": "error 200",
		"vote 3 all prevote 1 0 none 0": "ok", "vote 3 All prevote 1 0 none 0": "error 200", "vote 3 none prevote 1 0 none 0": "error 200", "vote 3 -1 prevote 1 0 none 0": "error 200", "vote all 0 prevote 1 0 none 0": "error 200",
		"propose 3 All 0 0": "error 200", "propose all 0 0 0": "error 200", "propose 3 0 all 0": "error 200", "propose 3 0 0 all": "error 200",
		"node all": "error 200", "pool none": "error 200", "tick all 1": "error 200", "block all 1": "error 200", "council all": "error 200", "account? all 11": "error 200", "account? 0 all": "error 200",
		"crash 0 0": "ok", "crash 0 255": "ok", "crash 0 256": "error 200", "crash 0 300": "error 200", "crash 0 18446744073709551615": "error 200", "crash 3 256": "error 200", "crash 0 0 256": "ok", "crash 0 0 x": "error 200", "crash 0 0 1 2 3 -1": "error 200",
	} {
		is(t, "Words", line, want+"\n")
	}
	for _, name := range []string{"minbond", "seats", "slash", "period", "age", "maxtxs", "propose", "votes", "pause", "resend", "trusting", "drift"} {
		for word, want := range map[string]string{name: "ok", strings.ToUpper(name): "error 200", name + "s": "error 200", name[1:]: "error 200"} {
			if got := console.Run("param " + word + " 1"); got != want+"\n" {
				t.Errorf("Words: param %s answers %q", word, got)
			}
		}
	}
	for _, word := range []string{"minBond", "min-bond", "chain", "time", "0", "1", "MaxTxs", "maxTxs", "\xff"} {
		if got := console.Run("param " + word + " 1"); got != "error 200\n" {
			t.Errorf("Words: param %s answers %q", word, got)
		}
	}
}
