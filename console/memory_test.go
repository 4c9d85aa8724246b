package console_test

import (
	"fmt"
	"math/rand"
	"runtime"
	"strings"
	"sync"
	"testing"
	"time"

	"assent/api"
	"assent/console"
)

// edges are numbers at which something might wrap, or at which a limit stands.
var edges = []string{
	"0", "1", "2", "3", "4", "5", "16", "17", "31", "32", "33", "63", "64", "65", "99", "255", "256", "257", "1000", "1001", "65535", "65537",
	"2147483647", "2147483648", "4294967295", "4294967296", "4294967297", "1099511627775", "1099511627776", "1099511627777", "1125899906842623", "1125899906842624", "1125899906842625",
	"1152921504606846974", "1152921504606846975", "1152921504606846976", "9223372036854775806", "9223372036854775807", "9223372036854775808", "9223372036854775809", "18446744073709551614", "18446744073709551615",
}

// TestEdges is G1 of numbers: each number of each command at all edges, ahead of start and behind it, with what comes behind.
func TestEdges(t *testing.T) {
	const behind = "node 0\nnode 1\npending\npool 0\ntick 0 9\nrounds 3\nnode 0\nblock 0 1\naccount? 0 11\naccount? 0 40\nblame\n"
	for _, s := range shapes {
		t.Run(s.line, func(t *testing.T) {
			t.Parallel()
			all := strings.Fields(s.line)
			for k := 1; k < len(all); k++ {
				for _, n := range edges {
					one := append([]string(nil), all...)
					one[k] = n
					if all[0] == "rounds" && n == "65535" {
						continue // it takes long
					}
					line := strings.Join(one, " ") + "\n"
					if s.early {
						wantModel(t, "G1", "account 11 20 20\naccount 12 30 30\n"+line+"start 0 11 12\n"+behind)
					} else {
						wantModel(t, "G1", begin+line+behind)
					}
				}
			}
		})
	}
}

// TestGreatest: all numbers at once the least, and the greatest.
func TestGreatest(t *testing.T) {
	for _, n := range []string{"0", "18446744073709551615"} {
		script := ""
		for _, s := range shapes {
			all := strings.Fields(s.line)
			for k := 1; k < len(all); k++ {
				if strings.Trim(all[k], "0123456789") == "" {
					all[k] = n
				}
			}
			script += strings.Join(all, " ") + "\n"
		}
		wantModel(t, "G1", script)
		wantModel(t, "G1", four+script)
		wantModel(t, "G1", begin+script+script)
	}
}

// TestAnyBytes is G1 of scripts: whatever bytes there are, each line is answered, as the model does.
func TestAnyBytes(t *testing.T) {
	r := rand.New(rand.NewSource(20))
	for range 300 {
		b := make([]byte, r.Intn(3000))
		for k := range b {
			b[k] = byte(r.Intn(256))
			if r.Intn(8) == 0 {
				b[k] = " \t\r\n#0"[r.Intn(6)]
			}
		}
		wantModel(t, "G1", string(b))
		wantModel(t, "G1", four+string(b))
	}
	// Scripts that were right, a few bytes of which are changed, left out or doubled.
	script := four + "rounds 20\nvote 3 all prevote 4 0 none 0\nvote 3 all prevote 4 0 @0:1 0\nunbond 0 11 2 1\nfail 1 3 done\npay 0 40 41 7 2\npay 2 40 41 7 2\nrounds 9\ncrash 1 7 1 2 3 4\nnode 0\nnode 1\nblock 0 3\npropose 3 all 0 0\npropose 3 1 0 1\nrounds 30\ncouncil 0\naccount? 0 11\naccount? 0 14\nfree 0 14 1\npool 0\npending\nblame\n"
	for range 400 {
		b := []byte(script)
		for range 1 + r.Intn(6) {
			at := r.Intn(len(b))
			switch r.Intn(4) {
			case 0:
				b[at] = " \t\r\n#@:0123x\xff"[r.Intn(13)]
			case 1:
				b = append(b[:at:at], b[at+1:]...)
			case 2:
				b = append(b[:at:at], append([]byte{b[at]}, b[at:]...)...)
			case 3:
				end := min(len(b), at+r.Intn(40))
				b = append(b[:end:end], append(append([]byte(nil), b[at:end]...), b[end:]...)...)
			}
		}
		if s := string(b); !strings.Contains(s, "rounds 2000") && !strings.Contains(s, "rounds 3000") {
			wantModel(t, "G1", s)
		}
	}
}

// TestAnyWords is G1 of words: lines of commands and words by lot.
func TestAnyWords(t *testing.T) {
	r := rand.New(rand.NewSource(21))
	words := append([]string{"all", "none", "prevote", "precommit", "fault", "power", "done", "age", "seats", "@0:1", "@1:0", "@3:1", "#", "c", strings.Repeat("0", 64), strings.Repeat("e", 64), "x", "01"}, "0", "1", "2", "3", "4", "11", "12", "14", "40", "41")
	var names []string
	for _, s := range shapes {
		names = append(names, strings.Fields(s.line)[0])
	}
	oks := 0
	for n := range 120 {
		script := ""
		if n%3 > 0 {
			script = begin
		}
		for range 150 {
			line := names[r.Intn(len(names))]
			want := len(strings.Fields(grammar[line]))
			if r.Intn(8) == 0 {
				want = r.Intn(9)
			}
			for range want {
				w := words[r.Intn(len(words))]
				if r.Intn(2) == 0 {
					w = words[len(words)-1-r.Intn(10)]
				}
				line += " " + w
			}
			script += line + "\n"
		}
		oks += strings.Count(wantModel(t, "G1", script), "ok\n")
	}
	if oks < 1000 {
		t.Errorf("only %d lines are not refused", oks)
	}
}

// TestFull: scripts of MaxText bytes of whatever one likes are played.
func TestFull(t *testing.T) {
	r := rand.New(rand.NewSource(22))
	for what, piece := range map[string]func() string{
		"words":     func() string { return "a " },
		"lines":     func() string { return "a\n" },
		"a word":    func() string { return "1" },
		"accounts":  func() string { return "account 1 1 1\n" },
		"starts":    func() string { return "start 0 1\n" },
		"addresses": func() string { return "start 0" + strings.Repeat(" 1", 999) + "\n" },
		"votes":     func() string { return fmt.Sprintf("vote 3 all prevote %d 0 none 0\n", 1+r.Intn(9)) },
		"payments":  func() string { return fmt.Sprintf("pay %d 40 %d 1 0\n", r.Intn(3), 100+r.Intn(9000)) },
		"ticks":     func() string { return fmt.Sprintf("tick %d 1\n", r.Intn(3)) },
		"troubles":  func() string { return "fail 0 9 power\n" },
		"keeps":     func() string { return "crash 0 1" + strings.Repeat(" 9", 999) + "\n" },
		"bytes":     func() string { return string([]byte{byte(r.Intn(256)), byte(r.Intn(256)), 10}) },
	} {
		for _, beginning := range []string{"", begin} {
			b := strings.Builder{}
			b.WriteString(beginning)
			for b.Len() < api.MaxText {
				b.WriteString(piece())
			}
			script := b.String()[:api.MaxText]
			if got := wantModel(t, what, script); len(got) == 0 || strings.Contains(got, "error 4\n") {
				t.Errorf("%s: %.40q", what, got)
			}
		}
	}
}

// TestCouncil64: the greatest council there is.
func TestCouncil64(t *testing.T) {
	script := ""
	for a := 1; a <= 70; a++ {
		script += fmt.Sprintf("account %d 9 %d\n", a, 1+a%3)
	}
	got := wantModel(t, "council", script+"start 31 70 69 68 67 66 65 64 63 62 61 60 59 58 57 56 55 54 53 52 51 50 49 48 47 46 45 44 43 42 41 40 39\nrounds 3\ncouncil 0\nnode 0\n")
	if strings.Count(got, "member ") != 64 {
		t.Errorf("council: %q", got)
	}
}

// TestBehindAnother is K2: where a script is cut at a line's end, its first part answers what it does alone, and the second what is left.
func TestBehindAnother(t *testing.T) {
	l := newLot(t, 77)
	for range 150 {
		l.stir(true)
	}
	l.end("K2")
	whole, ahead := console.Run(l.script.String()), ""
	for k, line := range l.lines {
		if k%3 == 0 {
			if got := console.Run(ahead); got != strings.Join(l.told[:k], "") || !strings.HasPrefix(whole, got) {
				t.Fatalf("K2: the first %d lines answer %.100q", k, got)
			}
		}
		ahead += line + "\n"
	}
}

// TestRefusedLines is K3: lines that are answered by ErrWord, ErrLine or ErrState may stand anywhere, as often as one likes.
func TestRefusedLines(t *testing.T) {
	const early, late = "account 7 7 7\n", "node 0\ntick 0 1\nrounds 9\ncrash 0 0\npay 0 40 41 1 1\nvote 3 all prevote 1 0 none 0\nvote 3 all prevote 1 0 @0:1 0\npropose 3 all 0 0\npending\nblame\n"
	wrong := "jump\n\xff\naccount\naccount 1 2\naccount 1 2 03\naccount 1 2 3 4\nchain\nchain d\nchain d x\nchain d 1 2\nparam\nparam age\nparam age x\nparam ages 1\nparam age 1 1\nstart\nstart x\nstart 0 x\nstart 0 11 x\n" +
		"tick 0\ntick 0 x\ntick 0 1 1\nrounds\nrounds x\nrounds 1 1\ndeliver x\ndrop x\nagain x\nfail 0 1 x\nfail 0 1\ncrash 0\ncrash 0 256\ncrash 0 0 x\npay 0 40 41 1 x\npay 0 40 41 1\nbond 0 11 1 x\nvote 3 all prevote 1 0 x 0\nvote 3 all prevote 1 0 none\nvote 3 all x 1 0 none 0\npropose 3 all 0 x\n"
	const life = "rounds 20\nvote 3 all prevote 4 0 none 0\nvote 3 all prevote 4 0 @0:1 0\nunbond 0 11 2 1\nfail 1 3 done\npay 0 40 41 7 2\nrounds 9\ncrash 1 7 1 2 3 4\nnode 0\nnode 1\nblock 0 3\nrounds 30\ncouncil 0\naccount? 0 11\naccount? 0 14\nfree 0 14 1\npool 0\npending\nblame\n"
	want := console.Run(four + life)
	// One at a time, in each place.
	all := strings.SplitAfter(strings.TrimSuffix(four+life, "\n"), "\n")
	start := strings.Count(four, "\n")
	for at := 0; at <= len(all); at++ {
		more := wrong + late
		if at >= start {
			more = wrong + strings.Repeat(early+"chain d 5\nparam age 3\nstart 0 11\n", 2)
		}
		script, marks := strings.Join(all[:at], "")+"\n"+more+strings.Join(all[at:], ""), strings.Count(more, "\n")
		got := console.Run(script)
		ahead := console.Run(strings.Join(all[:at], ""))
		rest, ok := strings.CutPrefix(got, ahead)
		if !ok {
			t.Fatalf("K2: at %d %q", at, got)
		}
		for range marks {
			line, behind, _ := strings.Cut(rest, "\n")
			if line != "error 200" && line != "error 201" && line != "error 3" {
				t.Fatalf("K3: at %d a line is answered by %q", at, line)
			}
			rest = behind
		}
		if ahead+rest != want {
			t.Fatalf("K3: at %d the later answers are %q, want %q", at, rest, strings.TrimPrefix(want, ahead))
		}
	}
}

// TestTogether is G4: what is played beside makes no difference, and no goroutine is left.
func TestTogether(t *testing.T) {
	l := newLot(t, 78)
	for range 200 {
		l.stir(true)
	}
	one, two := l.script.String(), four+"rounds 60\nnode 0\nblock 1 3\npending\n"
	want := map[string]string{one: console.Run(one), two: console.Run(two)}
	was := runtime.NumGoroutine()
	var all sync.WaitGroup
	for k := range 16 {
		all.Go(func() {
			script := []string{one, two}[k%2]
			if console.Run(script) != want[script] {
				t.Errorf("G4: a script answers another thing beside others")
			}
		})
	}
	all.Wait()
	for n := 0; runtime.NumGoroutine() > was; n++ {
		if n > 100 {
			t.Fatalf("G4: %d goroutines are left", runtime.NumGoroutine()-was)
		}
		time.Sleep(time.Millisecond)
	}
}
