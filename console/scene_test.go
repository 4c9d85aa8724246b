package console_test

import (
	"fmt"
	"strings"
	"testing"

	"assent/api"
	"assent/console"
	"assent/wire"
)

// scene is a script that is written line by line; the model beside it shows what only a cluster knows: what is under way, and ids that nobody has decided yet.
type scene struct {
	t      *testing.T
	m      *model
	script strings.Builder
	told   []string // what each line has answered
	lines  []string
}

func newScene(t *testing.T, beginning string) *scene {
	t.Helper()
	s := &scene{t: t, m: newModel()}
	for line := range strings.Lines(beginning) {
		s.say("%s", strings.TrimSuffix(line, "\n"))
	}
	return s
}

// say writes a line, and is what the model answers.
func (s *scene) say(format string, args ...any) string {
	line := fmt.Sprintf(format, args...)
	told := s.m.line(line)
	s.script.WriteString(line + "\n")
	s.lines, s.told = append(s.lines, line), append(s.told, told)
	return told
}

// must is a line that is not refused.
func (s *scene) must(format string, args ...any) string {
	s.t.Helper()
	told := s.say(format, args...)
	if strings.HasPrefix(told, "error") {
		s.t.Fatalf("%q answers %q", fmt.Sprintf(format, args...), told)
	}
	return told
}

// end holds what the script answers against the model; it may be gone on with.
func (s *scene) end(what string) {
	s.t.Helper()
	if got := console.Run(s.script.String()); got != strings.Join(s.told, "") {
		rest := got
		for k, want := range s.told {
			var ok bool
			if rest, ok = strings.CutPrefix(rest, want); !ok {
				s.t.Fatalf("%s: line %d, %q, answers %.200q, want %q", what, k, s.lines[k], rest, want)
			}
		}
		s.t.Fatalf("%s: more is answered: %.200q", what, rest)
	}
}

// message is one that is under way.
type message struct {
	from, to int
	api.Msg
}

// under is the message at a place of those that are under way.
func (s *scene) under(at int) message {
	from, to, b, _ := s.m.c.Peek(at)
	m, _ := wire.DecodeMsg(b)
	return message{from, to, m}
}

// drop loses all messages of a kind.
func (s *scene) drop(which func(message) bool) {
	for at := s.m.c.Pending() - 1; at >= 0; at-- {
		if which(s.under(at)) {
			s.say("drop %d", at)
		}
	}
}

// take delivers all messages of a kind that are under way, the oldest first, and no others.
func (s *scene) take(which func(message) bool) {
	for at, left := 0, s.m.c.Pending(); left > 0; left-- {
		if which(s.under(at)) {
			s.say("deliver %d", at)
		} else {
			at++
		}
	}
}

func (s *scene) state(node int) api.State {
	st, _ := s.m.c.State(node)
	return st
}

func (s *scene) view(node int) api.View {
	v, _ := s.m.c.View(node)
	return v
}

// honest is how many of the nodes are.
func (s *scene) honest() int {
	_, n := s.m.c.Nodes()
	return n
}

// proposed is the id of the latest block that was proposed to a node, or by it, at the height and round where it stands.
func (s *scene) proposed(node int) (id api.Hash, ok bool) {
	v := s.view(node)
	for at := range s.m.c.Pending() {
		m := s.under(at)
		if m.Kind == api.MsgProposal && m.Proposal.Height == v.Height && m.Proposal.Round == v.Round && (m.to == node || m.from == node) {
			id, ok = m.Proposal.Id, true
		}
	}
	return id, ok
}
