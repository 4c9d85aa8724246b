package console_test

import (
	"strings"
	"testing"

	"assent/api"
	"assent/console"
)

// four is the beginning of DOC.md's examples: four members with the power 5 each, of whom 14 lies, and one who has no bond.
const four = `account 11 100 5
account 12 100 5
account 13 100 5
account 14 100 5
account 40 500 0
start 1 11 12 13 14
`

// said is a line, or some, and all that they are to answer, a piece a line.
type said struct {
	line string
	want []string
}

func says(line string, want ...string) said { return said{line, want} }

// wantSaid: one script of all these lines answers just that.
func wantSaid(t *testing.T, what string, list ...said) {
	t.Helper()
	var script, want string
	for _, s := range list {
		script += s.line + "\n"
		was := want
		for _, l := range s.want {
			want += l + "\n"
		}
		if got := console.Run(script); got != want {
			t.Fatalf("%s: behind %q %q answers %q, want %q", what, script, s.line, strings.TrimPrefix(got, was), s.want)
		}
	}
}

// begun is the beginning above, and what it answers.
func begun(list ...said) []said {
	return append([]said{says(strings.TrimSuffix(four, "\n"), "ok", "ok", "ok", "ok", "ok", "ok")}, list...)
}

// answer is what a script answers behind a beginning that is not refused.
func answer(t *testing.T, beginning, script string) string {
	t.Helper()
	rest, ok := strings.CutPrefix(console.Run(beginning+script), strings.Repeat("ok\n", strings.Count(beginning, "\n")))
	if !ok {
		t.Fatalf("a beginning is refused: %q", console.Run(beginning))
	}
	return rest
}

// is is what a script of one or more lines answers behind the beginning above.
func is(t *testing.T, what, script, want string) {
	t.Helper()
	if got := answer(t, four, script); got != want {
		t.Errorf("%s: %.200q answers %q, want %q", what, script, got, want)
	}
}

// TestTen: DOC.md's ten examples of the whole, one script.
func TestTen(t *testing.T) {
	const two = "f885f7a2000cd586ed6257e2d2bbfee2e3cfcad351caa980196567ab1d3e0091"
	wantSaid(t, "the ten", begun(
		says("node 0", "node 0 height 0 round 0 step 0 locked -1 valid -1 clock 1"),
		says("node 3", "error 180"),
		says("rounds 30", "ok"),
		says("node 0", "node 0 height 3 round 1 step 2 locked -1 valid -1 clock 31"),
		says("pay 0 40 41 30 2", "ok"),
		says("rounds 40", "ok"),
		says("node 0", "node 0 height 9 round 0 step 3 locked 0 valid 0 clock 71"),
		says("account? 0 41", "account 41 balance 30 bond 0 nonce 0"),
		says("account? 0 40", "account 40 balance 468 bond 0 nonce 1"),
		says("block 0 2", "block 2 "+two+" round 0 time 4 txs 0 evidence 0 by 12"),
		says("block 1 2", "block 2 "+two+" round 0 time 4 txs 0 evidence 0 by 12"),
		says("fail 0 2 power", "ok"),
		says("rounds 9", "ok"),
		says("node 0", "node 0 height 9 round 0 step 3 locked 0 valid 0 clock 80 dead"),
		says("crash 0 0 5 5 5 5", "ok"),
		says("node 0", "node 0 height 9 round 0 step 3 locked 0 valid 0 clock 80"),
		says("rounds 60", "ok"),
		says("node 0", "node 0 height 16 round 0 step 0 locked -1 valid -1 clock 140"),
		says("node 1", "node 1 height 16 round 0 step 0 locked -1 valid -1 clock 140"),
		says("vote 3 all prevote 9 0 none 0", "ok"),
		says("vote 3 all prevote 9 0 @0:1 0", "ok"),
		says("pending", "pending 8"),
		says("blame", "error 133"),
		says("bond 1 40 50 1", "ok"),
		says("rounds 60", "ok"),
		says("council 0", "member 11 power 5", "member 12 power 5", "member 13 power 5", "member 14 power 5", "member 40 power 50"),
		says("rounds 200", "ok"),
		says("node 2", "node 2 height 18 round 0 step 2 locked -1 valid -1 clock 400"),
	)...)
}

// TestExamples: those of the chapter that stand nowhere else.
func TestExamples(t *testing.T) {
	for script, want := range map[string]string{
		"":                         "",
		"node 0":                   "error 3\n",
		"account 1 2":              "error 201\n",
		"account 1 2 03":           "error 200\n",
		"jump":                     "error 200\n",
		"start 0":                  "error 2\n",
		"start 0 9":                "error 53\n",
		"account 9 0 0\nstart 0 9": "ok\nerror 53\n",
		"account 9 0 1\nstart 0 9": "ok\nok\n",
	} {
		if got := console.Run(script); got != want {
			t.Errorf("%q answers %q, want %q", script, got, want)
		}
	}
}

// TestText: a script of MaxText bytes is played, one of a byte more is not, whatever stands in it.
func TestText(t *testing.T) {
	for what, pad := range map[string]string{"remarks": "#", "lines": "\n", "blanks": " ", "no text": "\x00\xff"} {
		end := "\npending\n"
		full := strings.Repeat(pad, api.MaxText)[:api.MaxText-len(end)] + end
		want := "error 3\n"
		if what == "no text" {
			want = "error 200\n" + want
		}
		if got := console.Run(full); got != want {
			t.Errorf("K1: %s of MaxText bytes answer %q", what, got)
		}
		if got := console.Run(full + "\n"); got != "error 4\n" {
			t.Errorf("ErrBig: %s of a byte more answer %q", what, got)
		}
	}
	long := four + strings.Repeat("pending\n", 9000)
	if got := console.Run(long); got != "error 4\n" {
		t.Errorf("ErrBig: a long script answers %.40q", got)
	}
	if got, want := console.Run(long[:api.MaxText-7]), strings.Repeat("ok\n", 6)+strings.Repeat("pending 0\n", (api.MaxText-7-len(four))/8); !strings.HasPrefix(got, want) {
		t.Errorf("K1: %d bytes answer %d bytes", api.MaxText-7, len(got))
	}
}
