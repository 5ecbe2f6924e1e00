package script

import (
	"slices"
	"strconv"
	"strings"
	"testing"

	"dispatcher/api"
	"dispatcher/check"
	"dispatcher/front"
	"dispatcher/report"
	"dispatcher/sample"
	"dispatcher/tree"
	"dispatcher/witness"
)

// says does lines, and holds what the last one is answered against what is wanted.
func says(t *testing.T, s *Script, want string, lines ...string) {
	t.Helper()
	var got []string
	for _, l := range lines {
		got = s.Do(l)
	}
	if text := strings.Join(got, "|"); text != want {
		t.Errorf("%.60q: %s, not %s", lines, text, want)
	}
}

// TestExamples: P32.1, P32.2: the chapter's examples.
func TestExamples(t *testing.T) {
	s := New()
	if s.Text() != "" || s.Config() != (api.Config{Ranks: 1, Runs: 100, Steps: 1000}) {
		t.Errorf("%q %v", s.Text(), s.Config())
	}
	says(t, s, "complete|runs 1 listed 1 blocked 0 cut 0|clean 1", "check")
	says(t, s, "", "format")
	says(t, s, "ok", ": if rank { send(0, 0, 0, 7, 1); } else { recv(0, any, 0); }")
	says(t, s, "ok", "config 2 1 0 0 9 50")
	says(t, s, "error 2", "show 0")
	says(t, s, "complete|runs 1 listed 1 blocked 0 cut 0|clean 1", "check")
	says(t, s, "rank 0 done|rank 1 done|signature 0.0.0.1.0|schedule g.0 g.1 g.1 m.0.0.1.0 g.0", "show 0")
	says(t, s, "0 > recv(0, -1, 0)|error 200", "play g.0 g.0")
	says(t, s, "0 > recv(0, -1, 0)|1 > send(0, 0, 0, 7, 1)|1 > done|0.0 = 1.0|0 < value 7 peer 1 tag 0 > done", "story 0")
	for line, want := range map[string]string{"show 1": "error 2", "show -1": "error 2", "story 1": "error 2", "story -5": "error 2", "hello": "?", "play -": "", "play": "?", "play ": "error 240", "play g.0 ": "error 240", "play x": "error 240", "play a.0.0.0.0.0": "error 200"} {
		says(t, s, want, line)
	}
	says(t, s, "if rank {|  send(0, 0, 0, 7, 1);|} else {|  recv(0, any, 0);|}", "format")
	says(t, s, "config 2 1 0 0 9 10", "budget")
	if s.Config() != (api.Config{Ranks: 2, Eager: 1, Runs: 9, Steps: 10}) {
		t.Errorf("%v", s.Config())
	}
	says(t, s, "error 2", "show 0")
	if s.Text() != "if rank { send(0, 0, 0, 7, 1); } else { recv(0, any, 0); }\n" {
		t.Errorf("%q", s.Text())
	}
	says(t, s, "ok", "check", "new")
	says(t, s, "error 2", "story 0")
	if s.Text() != "" || s.Config().Ranks != 2 {
		t.Errorf("%q %v", s.Text(), s.Config())
	}
}

// TestLines: P32.1: what is a line, and what isn't.
func TestLines(t *testing.T) {
	s := New()
	for _, line := range []string{"", " ", ":", ":x", "new ", " new", "check ", "budget 1", "format x", "show", "show ", "show x", "show 01", "show +1", "show -0", "show 0 0", "show  0", "show 9223372036854775808", "story", "story 0x0", "config", "config 1 1 1 1 1", "config 1 1 1 1 1 1 1", "config 1 1 2 1 1 1", "config 1 1 -1 1 1 1", "config 1 1 1 1 1 01", "config 1 1 1 1 1  1", "config 1 1 1 1 1 1 ", "Check", "check\n", ": " + strings.Repeat("x", MaxLine-1)} {
		says(t, s, "?", line)
	}
	if s.Text() != "" || s.Config() != New().Config() {
		t.Errorf("%q %v", s.Text(), s.Config())
	}
	says(t, s, "ok", "config -3 9223372036854775807 1 -9223372036854775808 0 5")
	if s.Config() != (api.Config{Ranks: -3, Eager: 1<<63 - 1, Loose: true, Polls: -1 << 63, Steps: 5}) {
		t.Errorf("%v", s.Config())
	}
	says(t, s, "error 2", "check")
	says(t, s, "error 2", "budget")
	says(t, s, "error 2", "play -")
	says(t, s, "ok", "config 1 0 1 0 1 5")
	says(t, s, "config 1 0 1 0 1 1", "budget")
	says(t, s, "ok", ": ")
	says(t, s, "ok", ":  int x; # more")
	if s.Text() != "\n int x; # more\n" {
		t.Errorf("%q", s.Text())
	}
	says(t, s, "int x;", "format")
	says(t, s, "ok", ": "+strings.Repeat(" ", MaxLine-2))
	says(t, s, "wrong 3 0 0", "check")
}

// TestWrong: P32.1: what is wrong with the text; what is told so changes nothing, but that findings are gone.
func TestWrong(t *testing.T) {
	s := New()
	s.Do(": x = 1;")
	for _, line := range []string{"check", "budget", "format", "play -", "play g.0"} {
		says(t, s, "wrong 40 1 1", line)
	}
	says(t, s, "error 240", "play nothing")
	says(t, s, "error 2", "show 0")
	says(t, s, "wrong 20 2 5", ": y = ;", "check")
	s = New()
	says(t, s, "error 90", ": while 1 { }", "budget")
	says(t, s, "incomplete: steps|runs 1 listed 0 blocked 0 cut 1|clean 0", "check")
	s = New()
	s.Do("check")
	says(t, s, "rank 0 done|signature -|schedule g.0", "show 0")
	for i, line := range []string{": stop;", "new", "config 1 0 0 0 9 9", "budget"} {
		s.Do("check")
		if len(s.found.Items) != 1 || s.Do(line) == nil || len(s.found.Items) != 0 {
			t.Errorf("%d: the findings aren't gone", i)
		}
	}
	s.Do("check")
	says(t, s, "error 240", "budget", "check", "play y")
	says(t, s, "rank 0 done|signature -|schedule g.0", "show 0")
	if n := (*Script)(nil); n.Text() != "" || n.Config() != (api.Config{}) || strings.Join(n.Do("check"), "|") != "error 1" {
		t.Errorf("a nil script")
	}
}

// answered tells what a check of a text answers.
func answered(text string, cfg api.Config) []string {
	r, w, e := check.Check([]byte(text), cfg)
	if w != (tree.Wrong{}) {
		return []string{"wrong " + number(int(w.Err), w.Line, w.Column)}
	}
	if e != api.OK {
		return []string{"error " + number(int(e))}
	}
	return r.Lines()
}

// TestMany: P32.3, P32.4, P32.5.
func TestMany(t *testing.T) {
	for seed := range 120 {
		d := sample.Seeded(seed)
		ranks := 2 + d.Throw(2)
		text := sample.Talk(seed, ranks, 4)
		s := New()
		for _, line := range strings.Split(strings.TrimSuffix(text, "\n"), "\n") {
			asks(t, d, s)
			says(t, s, "ok", ": "+line)
		}
		if s.Text() != text {
			t.Fatalf("%q, not %q", s.Text(), text)
		}
		says(t, s, "ok", "config "+number(ranks, d.Throw(2), d.Throw(2), d.Throw(3), 50, 200))
		asks(t, d, s)
		if got := s.Do("check"); !slices.Equal(got, answered(text, s.Config())) {
			t.Fatalf("%d: %v", seed, got)
		}
		asks(t, d, s)
		r, _, _ := check.Check([]byte(text), s.Config())
		p, _ := front.Compile([]byte(text))
		for i, x := range r.Items {
			schedule, _ := witness.Text(x.Schedule)
			story, e := report.Story(p, s.Config(), x.Schedule)
			n := strconv.Itoa(i)
			if got := s.Do("story " + n); e != api.OK || !slices.Equal(got, s.Do("play "+schedule)) || !slices.Equal(got, story) {
				t.Fatalf("%d: %v", seed, got)
			}
			shown, _ := check.Show([]byte(text), s.Config(), r, i)
			if got := s.Do("show " + n); !slices.Equal(got, shown) {
				t.Fatalf("%d: %v", seed, got)
			}
		}
		if got := s.Do("check"); !slices.Equal(got, answered(text, s.Config())) {
			t.Fatalf("%d: again: %v", seed, got)
		}
	}
}

// asks does lines that change nothing.
func asks(t *testing.T, d *sample.Dice, s *Script) {
	text, cfg, found := s.Text(), s.Config(), len(s.found.Items)
	for range 3 {
		s.Do(d.One("show 0", "show 1", "story 0", "story 99", "play g.0", "play -", "play x", "format", "what", "config 1", ""))
	}
	if s.Text() != text || s.Config() != cfg || len(s.found.Items) != found {
		t.Fatalf("what asks changes something")
	}
}
