package witness

import (
	"math"
	"slices"
	"strings"
	"testing"

	"dispatcher/api"
	"dispatcher/code"
	"dispatcher/front"
	"dispatcher/inter"
	"dispatcher/sample"
	"dispatcher/tree"
)

func compiled(t *testing.T, s string) code.Program {
	t.Helper()
	p, w := front.Compile([]byte(s))
	if w != (tree.Wrong{}) {
		t.Fatalf("%q: %v", s, w)
	}
	return p
}

func goes(rank int) api.Pick { return api.Pick{Kind: api.PkGo, Rank: rank} }

// TestText: P28.1.
func TestText(t *testing.T) {
	for s, l := range map[string][]api.Pick{
		"-": nil, "g.0 m.0.1.2.0": {goes(0), {Kind: api.PkMatch, Call: 1, From: 2}}, "a.1.3.-1.0.0": {{Kind: api.PkAnswer, Rank: 1, Call: 3, Value: -1}}, "g.-5": {goes(-5)}, "a.1.2.3.4.5 m.-1.-2.-3.-4 g.9223372036854775807": {{Kind: api.PkAnswer, Rank: 1, Call: 2, Value: 3, From: 4, Seq: 5}, {Kind: api.PkMatch, Rank: -1, Call: -2, From: -3, Seq: -4}, goes(math.MaxInt)},
	} {
		if got, e := Text(l); got != s || e != api.OK {
			t.Errorf("%s: %s %d", s, got, e)
		}
		if got, e := Parse(s); !slices.Equal(got, l) || e != api.OK {
			t.Errorf("%s: %v %d", s, got, e)
		}
	}
	for _, p := range []api.Pick{{}, {Kind: 4}, {Kind: api.PkGo, Call: 1}, {Kind: api.PkGo, From: 1}, {Kind: api.PkGo, Seq: 1}, {Kind: api.PkGo, Value: -1}, {Kind: api.PkMatch, Value: 1}} {
		if s, e := Text([]api.Pick{goes(0), p}); s != "" || e != api.ErrArg {
			t.Errorf("%v: %s %d", p, s, e)
		}
	}
	for _, s := range []string{"", " ", "g", "g.", "g.0 ", " g.0", "g.0  g.0", "g.00", "g.+0", "g.-0", "g.0.1", "g.x", "m.0.1.2", "m.0.1.2.3.4", "a.0.1.2.3", "a.0.1.2.3.4.5", "h.0", "G.0", "g.0 -", "--", "g.9223372036854775808", "g.0\n", "m.0.0.0.0.0.0.0", ".0", "g.0,g.0"} {
		if l, e := Parse(s); l != nil || e != api.ErrPath {
			t.Errorf("%q: %v %d", s, l, e)
		}
	}
	if !Same(nil, []api.Pick{}) || !Same([]api.Pick{goes(1)}, []api.Pick{goes(1)}) || Same([]api.Pick{goes(1)}, []api.Pick{goes(2)}) || Same(nil, []api.Pick{goes(1)}) {
		t.Errorf("same")
	}
}

// TestPlay: P28.2.
func TestPlay(t *testing.T) {
	p := compiled(t, "if rank { send(0, 0, 0, 7, 1); } else { recv(0, any, 0); }")
	cfg := api.Config{Ranks: 2, Steps: 50}
	m := api.Pick{Kind: api.PkMatch, From: 1}
	l := []api.Pick{goes(1), goes(0), m, goes(0), goes(1)}
	s, done, e := Play(p, cfg, l)
	if e != api.OK || done != 5 || !s.Terminal() {
		t.Errorf("%d %d", done, e)
	}
	s, done, e = Play(p, cfg, []api.Pick{goes(0), goes(1), goes(1), m})
	if e != api.ErrPick || done != 2 || s.Done() != 2 {
		t.Errorf("%d %d", done, e)
	}
	if s, done, e = Play(p, cfg, nil); e != api.OK || done != 0 || s.Done() != 0 {
		t.Errorf("%d %d", done, e)
	}
	if s, done, e = Play(p, cfg, []api.Pick{{}}); e != api.ErrPick || done != 0 || s == nil {
		t.Errorf("%d %d", done, e)
	}
	for _, x := range []struct {
		p   code.Program
		cfg api.Config
		e   api.Errno
	}{{p, api.Config{}, api.ErrArg}, {p, api.Config{Ranks: 2}, api.ErrArg}, {code.Program{}, cfg, api.ErrCode}} {
		s, done, e := Play(x.p, x.cfg, l)
		picks, n, e2 := Normal(x.p, x.cfg, []api.Choice{{Rank: -1}})
		if s != nil || done != 0 || e != x.e || picks != nil || n != nil || e2 != x.e {
			t.Errorf("%v: %d %d", x.cfg, e, e2)
		}
	}
}

// TestNormal: P28.3.
func TestNormal(t *testing.T) {
	cfg := api.Config{Ranks: 2, Steps: 50}
	if l, s, e := Normal(compiled(t, "stop;"), cfg, nil); e != api.OK || !slices.Equal(l, []api.Pick{goes(0), goes(1)}) || !s.Terminal() {
		t.Errorf("%v %d", l, e)
	}
	p := compiled(t, "if rank { bsend(0, 0, 0, rank, 1); } else { recv(0, any, 0); recv(0, any, 0); }")
	cfg.Ranks = 3
	one, two := api.Choice{From: 1}, api.Choice{From: 2}
	second := api.Choice{Call: 1, From: 1}
	whole, s, e := Normal(p, cfg, []api.Choice{two, second})
	if text, _ := Text(whole); e != api.OK || text != "g.0 g.1 g.1 g.2 g.2 m.0.0.2.0 g.0 m.0.1.1.0 g.0" || !s.Terminal() {
		t.Errorf("%s %d", text, e)
	}
	for i, x := range []struct {
		l []api.Choice
		e api.Errno
	}{
		{[]api.Choice{second, two}, api.ErrArg}, {[]api.Choice{{From: 99}}, api.ErrArg}, {nil, api.ErrPath}, {[]api.Choice{two}, api.ErrPath}, {[]api.Choice{one, second}, api.ErrPath}, {[]api.Choice{two, second, {Rank: 1}}, api.ErrPath}, {[]api.Choice{{From: 1, Seq: 1}}, api.ErrPath}, {[]api.Choice{{From: 1, Value: 1}}, api.ErrPath},
	} {
		if l, s, e := Normal(p, cfg, x.l); l != nil || s != nil || e != x.e {
			t.Errorf("%d: %v %d", i, l, e)
		}
	}
}

// TestSteps: P28.3: where steps are just enough, or not. (No rank does more than six instructions between calls.)
func TestSteps(t *testing.T) {
	p := compiled(t, "irecv(0, any, 0); bsend(0, 0, 0, 0, 1);"+strings.Repeat(" bsend(0, 0, 1, 0, 1);", 5))
	one, other := api.Choice{Seq: 1}, api.Choice{Seq: 2}
	for _, x := range []struct {
		steps int
		l     []api.Choice
		e     api.Errno
	}{
		{50, []api.Choice{one}, api.OK}, {9, []api.Choice{one}, api.OK}, {8, []api.Choice{one}, api.ErrSteps}, {7, []api.Choice{one}, api.ErrSteps}, {8, nil, api.ErrPath}, {7, nil, api.ErrSteps}, {9, nil, api.ErrPath},
		{8, []api.Choice{other}, api.ErrSteps}, {9, []api.Choice{other}, api.ErrPath}, {9, []api.Choice{one, {Rank: 5}}, api.ErrPath}, {10, []api.Choice{one, {Rank: 5}}, api.ErrPath},
	} {
		l, s, e := Normal(p, api.Config{Ranks: 1, Steps: x.steps}, x.l)
		if e != x.e || (s == nil) != (e != api.OK) || e == api.OK && len(l) != 9 || e != api.OK && l != nil {
			t.Errorf("%v: %v %d", x, l, e)
		}
	}
	loop := compiled(t, "while 1 { }")
	if l, s, e := Normal(loop, api.Config{Ranks: 1, Steps: 9}, nil); l != nil || s != nil || e != api.ErrSteps {
		t.Errorf("%v %d", l, e)
	}
}

// TestMany: P28.4, P28.5, P28.6.
func TestMany(t *testing.T) {
	for seed := range 500 {
		d := sample.Seeded(seed)
		ranks := 2 + d.Throw(3)
		p := compiled(t, sample.Talk(seed, ranks, 6))
		cfg := api.Config{Ranks: ranks, Steps: 99, Eager: d.Throw(2), Polls: d.Throw(3), Loose: d.Throw(2) == 0}
		s, _ := inter.New(p, cfg)
		var way []api.Pick
		for !s.Terminal() {
			l := s.Enabled()
			x := l[d.Throw(len(l))]
			s.Do(x)
			way = append(way, x)
		}
		text, e := Text(way)
		back, e2 := Parse(text)
		if e != api.OK || e2 != api.OK || !Same(back, way) {
			t.Fatalf("%d: %s", seed, text)
		}
		end, done, e := Play(p, cfg, way)
		if e != api.OK || done != len(way) || !inter.Same(end, s) {
			t.Fatalf("%d: %d", seed, e)
		}
		normal, state, e := Normal(p, cfg, s.Signature())
		if e != api.OK || !inter.Same(state, s) || len(normal) != len(way) || !slices.Equal(state.Signature(), s.Signature()) {
			t.Fatalf("%d: %v %d", seed, normal, e)
		}
		if end, done, e := Play(p, cfg, normal); e != api.OK || done != len(normal) || !inter.Same(end, s) {
			t.Fatalf("%d: the normal one isn't enabled", seed)
		}
	}
}
