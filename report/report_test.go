package report

import (
	"slices"
	"strings"
	"testing"

	"dispatcher/api"
	"dispatcher/call"
	"dispatcher/code"
	"dispatcher/front"
	"dispatcher/inter"
	"dispatcher/sample"
	"dispatcher/tree"
	"dispatcher/verdict"
	"dispatcher/witness"
)

func compiled(t *testing.T, s string) code.Program {
	t.Helper()
	p, w := front.Compile([]byte(s))
	if w != (tree.Wrong{}) {
		t.Fatalf("%q: %v", s, w)
	}
	return p
}

// TestEnd: P29.1.
func TestEnd(t *testing.T) {
	want := map[[2]uint8]string{{api.EdDone, 0}: "done", {api.EdFailed, 0}: "failed", {api.EdFault, api.FtDiv}: "fault div", {api.EdFault, api.FtIndex}: "fault index", {api.EdFault, api.FtCall}: "fault call"}
	for how := 0; how < 256; how++ {
		for fault := 0; fault < 256; fault++ {
			if s := End(uint8(how), uint8(fault)); s != want[[2]uint8{uint8(how), uint8(fault)}] {
				t.Errorf("%d %d: %q", how, fault, s)
			}
		}
	}
}

// TestWhole: P29.2, P29.4.
func TestWhole(t *testing.T) {
	cfg := api.Config{Ranks: 2, Steps: 90}
	for s, want := range map[string]string{
		"if rank { send(0, 0, 0, 7, 1); } else { recv(0, any, 0); }":                          "rank 0 done|rank 1 done|signature 0.0.0.1.0|schedule g.0 g.1 m.0.0.1.0 g.0 g.1",
		"recv(0, 1 - rank, 3); send(0, 1 - rank, 0, 0, 1);":                                   "rank 0 stuck in recv(0, 1, 3)|rank 1 stuck in recv(0, 0, 3)|waiting 0 0|waiting 1 0|signature -|schedule g.0 g.1",
		"if rank { irecv(0, any, 3); isend(0, 1, 4, -8, 1); assert 0; } else { barrier(0); }": "rank 0 stuck in barrier(0)|rank 1 failed|left 1 0|left 1 1|waiting 1 0|orphan 1.1 to 1 tag 4 value -8|signature -|schedule g.0 g.1 g.1 g.1",
		"if rank { reduce(0, 1, 5, max); } else { assert row[1] + 1 / 0; }":                   "rank 0 fault index|rank 1 stuck in reduce(0, 1, 5, max)|signature -|schedule g.0 g.1",
		"if rank { reduce(0, 1, 5, max); } else { gather(0, 0, 1); }":                         "rank 0 stuck in gather(0, 0, 1)|rank 1 stuck in reduce(0, 1, 5, max)|odd .0|signature -|schedule g.0 g.1",
		"if rank { wait(3); } else { assert 1 / 0; }":                                         "rank 0 fault div|rank 1 fault call|signature -|schedule g.0 g.1",
	} {
		sign := []api.Choice(nil)
		if strings.Contains(s, "recv(0, any, 0)") {
			sign = []api.Choice{{From: 1}}
		}
		l, e := Whole(compiled(t, s), cfg, sign)
		if got := strings.Join(l, "|"); e != api.OK || got != want {
			t.Errorf("%s: %s %d", s, got, e)
		}
		_, state, _ := witness.Normal(compiled(t, s), cfg, sign)
		lines, e := State(state)
		if e != api.OK || !slices.Equal(lines, l[:len(l)-2]) {
			t.Errorf("%s: %v", s, lines)
		}
	}
	p := compiled(t, "if rank { send(0, 0, 0, 7, 1); } else { recv(0, any, 0); }")
	for i, x := range []struct {
		p   code.Program
		cfg api.Config
		l   []api.Choice
		e   api.Errno
	}{{p, cfg, nil, api.ErrPath}, {p, cfg, []api.Choice{{Rank: -1}}, api.ErrArg}, {p, api.Config{Ranks: 2}, nil, api.ErrArg}, {code.Program{}, cfg, nil, api.ErrCode}, {p, api.Config{Ranks: 2, Steps: 1}, nil, api.ErrSteps}} {
		if l, e := Whole(x.p, x.cfg, x.l); l != nil || e != x.e {
			t.Errorf("%d: %v %d", i, l, e)
		}
	}
	first, _ := inter.New(p, cfg)
	for _, x := range []struct {
		s *inter.State
		e api.Errno
	}{{nil, api.ErrNil}, {&inter.State{}, api.ErrNil}, {first, api.ErrArg}} {
		if l, e := State(x.s); l != nil || e != x.e {
			t.Errorf("%v %d", l, e)
		}
	}
}

// TestStory: P29.3.
func TestStory(t *testing.T) {
	cfg := api.Config{Ranks: 2, Steps: 90, Polls: 1, Eager: 1}
	for s, x := range map[string]struct{ schedule, want string }{
		"if rank { ssend(0, 0, 0, 7, 1); } else { recv(0, any, 0); }":                                       {"g.0 g.1 m.0.0.1.0 g.1 g.0", "0 > recv(0, -1, 0)|1 > ssend(0, 0, 0, 7, 1)|0.0 = 1.0|1 > done|0 < value 7 peer 1 tag 0 > done"},
		"if rank { bsend(0, 0, 5, 7, 1); } else { iprobe(0, 1, any); iprobe(0, any, 5); iprobe(0, 0, 0); }": {"g.0 a.0.0.-1.0.0 g.0 g.1 g.1 a.0.1.0.1.0 g.0", "0 > iprobe(0, 1, -1)|0.0 ? -1|0 < flag 0 peer 0 tag 0 > iprobe(0, -1, 5)|1 > bsend(0, 0, 5, 7, 1)|1 > done|0.1 ? 0 1.0|0 < flag 1 peer 1 tag 5 > iprobe(0, 0, 0)"},
		"if rank { isend(0, 0, 5, 7, 1); test(0); } else { probe(0, 1, 5); assert 0; }":                     {"g.1 g.1 a.1.1.0.0.0 g.1 g.0 a.0.0.0.1.0 g.0", "1 > isend(0, 0, 5, 7, 1)|1 < req 0 > test(0)|1.1 ? 0|1 < flag 1 index 0 value 0 peer 0 tag 0 > done|0 > probe(0, 1, 5)|0.0 ? 0 1.0|0 < flag 0 peer 1 tag 5 > failed"},
		"gather(0, 1, rank); split(0, rank, 0); barrier(2);":                                                {"g.0 g.1 g.0 g.1 g.1 g.0", "0 > gather(0, 1, 0)|1 > gather(0, 1, 1)|0 < row > split(0, 0, 0)|1 < row 0 1 > split(0, 1, 0)|1 < comm 1 > fault call|0 < comm 1 > fault call"},
		"barrier(0); assert row[0];":                                                                        {"g.0 g.1 g.1", "0 > barrier(0)|1 > barrier(0)|1 > fault index"},
		"stop;":                                                                                             {"-", ""},
	} {
		p := compiled(t, s)
		schedule, e := witness.Parse(x.schedule)
		if e != api.OK {
			t.Fatalf("%s", x.schedule)
		}
		l, e := Story(p, cfg, schedule)
		if got := strings.Join(l, "|"); e != api.OK || got != x.want {
			t.Errorf("%s: %s %d", s, got, e)
		}
		wrong := append(slices.Clone(schedule), api.Pick{Kind: api.PkGo, Rank: 7}, api.Pick{Kind: api.PkGo})
		if bad, e := Story(p, cfg, wrong); e != api.ErrPick || !slices.Equal(bad, l) {
			t.Errorf("%s: %v %d", s, bad, e)
		}
	}
	loop := compiled(t, "int a[7]; int x; while 1 { x = x + 1; }")
	if l, e := Story(loop, api.Config{Ranks: 1, Steps: 7}, []api.Pick{{Kind: api.PkGo}, {Kind: api.PkGo}}); e != api.OK || strings.Join(l, "|") != "0 > goes on|0 > goes on" {
		t.Errorf("%v %d", l, e)
	}
	slow := compiled(t, "int a[3]; a[1] = 1; irecv(0, 0, 0); a[2] = req; a[0] = 7; waitall(0, a[2] + 1);")
	if l, e := Story(slow, api.Config{Ranks: 1, Steps: 7}, []api.Pick{{Kind: api.PkGo}, {Kind: api.PkGo}, {Kind: api.PkGo}}); e != api.OK || strings.Join(l, "|") != "0 > irecv(0, 0, 0)|0 < req 0 > goes on|0 > fault call" {
		t.Errorf("%v %d", l, e)
	}
	for _, x := range []struct {
		p   code.Program
		cfg api.Config
		e   api.Errno
	}{{loop, api.Config{Ranks: 1}, api.ErrArg}, {code.Program{}, cfg, api.ErrCode}} {
		if l, e := Story(x.p, x.cfg, nil); l != nil || e != x.e {
			t.Errorf("%v %d", l, e)
		}
	}
}

// TestMany: P29.5, P29.6, P29.7.
func TestMany(t *testing.T) {
	for seed := range 400 {
		d := sample.Seeded(seed)
		ranks := 2 + d.Throw(3)
		p := compiled(t, sample.Talk(seed, ranks, 6))
		cfg := api.Config{Ranks: ranks, Steps: 40, Eager: d.Throw(2), Polls: d.Throw(3), Loose: d.Throw(2) == 0}
		s, _ := inter.New(p, cfg)
		var way []api.Pick
		for !s.Terminal() {
			l := s.Enabled()
			x := l[d.Throw(len(l))]
			s.Do(x)
			way = append(way, x)
		}
		story, e := Story(p, cfg, way)
		if e != api.OK || len(story) != len(way) {
			t.Fatalf("%d: %d lines of %d", seed, len(story), len(way))
		}
		last := map[int]string{}
		for i, x := range way {
			if x.Kind == api.PkGo {
				_, last[x.Rank], _ = strings.Cut(story[i], " > ")
			}
		}
		lines, e := State(s)
		v, _ := verdict.Of(s)
		if e != api.OK || len(lines) != ranks+len(v.Left)+len(v.Waiting)+len(v.Orphans)+len(v.Odd) {
			t.Fatalf("%d: %v", seed, lines)
		}
		clean := true
		for rank := range ranks {
			how, fault := s.End(rank)
			want := End(how, fault)
			if how == api.EdRuns {
				c := s.Core()
				made, _, _ := c.Call(rank, c.Calls(rank)-1)
				want, _ = call.Text(call.Trim(made))
			}
			if last[rank] != want || !strings.HasSuffix(lines[rank], " "+want) {
				t.Fatalf("%d: %s, and %s, not %s", seed, last[rank], lines[rank], want)
			}
		}
		for i, x := range lines {
			clean = clean && x == "rank "+string(rune('0'+i))+" done"
		}
		if clean != v.Clean() {
			t.Fatalf("%d: %v", seed, lines)
		}
		whole, e := Whole(p, cfg, s.Signature())
		if e != api.OK || !slices.Equal(whole[:len(lines)], lines) || len(whole) != len(lines)+2 {
			t.Fatalf("%d: %v %d", seed, whole, e)
		}
		told(t, p, cfg, way)
	}
}

// told holds what is recalled of a rank's memory against what the core has.
func told(t *testing.T, p code.Program, cfg api.Config, way []api.Pick) {
	s, _ := inter.New(p, cfg)
	for _, x := range way {
		s.Do(x)
		c := s.Core()
		for rank := range cfg.Ranks {
			got, made := recall(p, s.Memory(rank))
			n := c.Calls(rank)
			if c.Open(rank) {
				n--
				if is, _, _ := c.Call(rank, n); !call.Same(call.Trim(is), made) {
					t.Fatalf("%v: %v", is, made)
				}
			}
			if made, want, ok := c.Call(rank, n-1); ok && call.Told(made.Kind, want) != call.Told(made.Kind, got) {
				t.Fatalf("%v: %v", want, got)
			}
		}
	}
}
