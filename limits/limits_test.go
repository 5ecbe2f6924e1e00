package limits

import (
	"strings"
	"testing"

	"dispatcher/api"
	"dispatcher/bound"
	"dispatcher/explore"
	"dispatcher/front"
	"dispatcher/sample"
	"dispatcher/tree"
)

func parsed(t *testing.T, s string) tree.Program {
	t.Helper()
	p, w := front.Tree([]byte(s))
	if w != (tree.Wrong{}) {
		t.Fatalf("%q: %v", s, w)
	}
	return p
}

// TestWays: P30.1.
func TestWays(t *testing.T) {
	for s, want := range map[string]int{
		"recv(0, any, 0);": 6, "recv(0, 1, any);": 1, "irecv(0, rank, 0);": 6, "probe(0, -1, 0);": 6, "probe(0, 2, 0);": 1, "iprobe(0, 1, 0);": 7, "iprobe(0, any, 0);": 7, "test(0);": 3, "waitany(1);": 2, "waitany(1, 2, 3);": 4, "testany(1, 2, 3);": 5, "wait(1);": 1, "waitall(1, 2);": 1, "send(0, any, 0, 0, 1);": 1, "barrier(0);": 1,
		"stop;": 1, "x = 1;": 1, "assert 1;": 1, "if 1 { test(0); test(0); } else { iprobe(0, 1, 1); }": 9, "if 1 { test(0); } else { iprobe(0, 1, 1); }": 7, "if 1 { }": 1, "for x < 4 { test(0); }": 81, "for x < size { test(0); }": 243, "for x < 1000 { barrier(0); }": 1, "for x < 1000 { test(0); }": Far,
		"for x < 12 { test(0); }": 531441, "for x < 13 { test(0); }": Far, "for x < 20 { waitany(0); }": Far, "for x < 19 { waitany(0); }": Far / 2, "for x < 2 { for x < 3 { waitany(0); } test(1); }": 576, "while 1 { }": 1, "while 1 { x = 1; barrier(0); }": 1, "while 0 { test(0); }": Far, "while 0 { if 1 { } else { test(0); } }": Far,
		"if 1 { while 1 { } } else { test(0); }": 3, "while 1 { while 1 { test(0); } }": Far, strings.Repeat("for x < 1000 { ", 32) + strings.Repeat("}", 32): 1, strings.Repeat("for x < 1000 { ", 31) + "test(0);" + strings.Repeat("}", 31): Far,
	} {
		if n := Ways(parsed(t, "int x; "+s).Body[0], 5); n != want {
			t.Errorf("%s: %d", s, n)
		}
	}
	one := parsed(t, "stop;").Body[0]
	for _, ranks := range []int{0, -1, 65} {
		if Ways(one, ranks) != Far {
			t.Errorf("%d ranks", ranks)
		}
	}
	for _, s := range []tree.Stmt{{}, {Op: tree.SSet}, {Op: tree.SCall, Kind: api.CkRecv}, {Op: tree.SIf}} {
		if Ways(s, 5) != Far {
			t.Errorf("%v", s)
		}
	}
	if Ways(one, 64) != 1 || Ways(one, 1) != 1 {
		t.Errorf("as many ranks as there may be")
	}
}

// TestRuns: P30.2, P30.3.
func TestRuns(t *testing.T) {
	for _, x := range []struct {
		s           string
		ranks       int
		runs, steps int
		e, e2       api.Errno
	}{
		{"recv(0, any, 0);", 2, 9, 6, 0, 0}, {"int x; x = 1;", 3, 1, 3, 0, 0}, {"while 1 { }", 2, 0, 0, api.ErrLimit, api.ErrLimit}, {"stop;", 0, 0, 0, api.ErrArg, api.ErrArg}, {"stop;", 65, 0, 0, api.ErrArg, api.ErrArg}, {"int x; for x < 100 { barrier(0); }", 64, 1, 64 * 201, 0, 0},
		{"waitany(0);", 16, 65536, 48, 0, 0}, {"waitany(0);", 17, 0, 51, api.ErrLimit, 0}, {"int x; for x < 1000 { for x < 1000 { barrier(0); } }", 2, 0, 0, api.ErrLimit, api.ErrLimit}, {"int x; for x < 20 { for x < 500 { barrier(0); } }", 64, 1, 0, 0, api.ErrLimit}, {"", 1, 1, 1, 0, 0},
	} {
		p := parsed(t, x.s)
		runs, e := Runs(p, x.ranks)
		steps, e2 := Steps(p, x.ranks)
		if runs != x.runs || e != x.e || steps != x.steps || e2 != x.e2 {
			t.Errorf("%s, %d: %d %d, %d %d", x.s, x.ranks, runs, e, steps, e2)
		}
		cfg := api.Config{Ranks: x.ranks, Eager: 99, Loose: true, Polls: -7, Runs: -3, Steps: 5}
		want, err := cfg, x.e
		if err == api.OK {
			err = x.e2
		}
		want.Runs, want.Steps = x.runs, x.steps
		if err != api.OK {
			want = api.Config{}
		}
		got, e := Enough(p, cfg)
		if got != want || e != err {
			t.Errorf("%s: %v %d", x.s, got, e)
		}
		for _, more := range []struct {
			runs, steps int
			ok          bool
		}{{x.runs, x.steps, true}, {x.runs - 1, x.steps, false}, {x.runs, x.steps - 1, false}, {api.MaxRuns, api.MaxSteps, true}, {api.MaxRuns + 1, api.MaxSteps, false}, {api.MaxRuns, api.MaxSteps + 1, false}} {
			cfg.Runs, cfg.Steps = more.runs, more.steps
			if Fits(p, cfg) != (more.ok && err == api.OK) {
				t.Errorf("%s: %v", x.s, more)
			}
		}
	}
	for _, p := range []tree.Program{{Body: []tree.Stmt{{}}}, {Body: []tree.Stmt{{Op: tree.SSet, Name: "x", Exprs: []tree.Expr{{Op: tree.XNum}}}}}} {
		runs, e := Runs(p, 2)
		steps, e2 := Steps(p, 2)
		cfg, e3 := Enough(p, api.Config{Ranks: 2})
		if runs != 0 || steps != 0 || e != api.ErrArg || e2 != api.ErrArg || e3 != api.ErrArg || cfg != (api.Config{}) || Fits(p, api.Config{Ranks: 2, Runs: 9, Steps: 9}) {
			t.Errorf("%v: %d %d %d", p, e, e2, e3)
		}
	}
}

// TestEnough: P30.4, P30.6, and P5 of the whole.
func TestEnough(t *testing.T) {
	held, runs := 0, 0
	for seed := range 1500 {
		d := sample.Seeded(seed)
		ranks := 2 + d.Throw(2)
		text := sample.Talk(seed, ranks, 1+d.Throw(4))
		switch seed {
		case 0:
			ranks, text = 3, "if rank { bsend(0, 0, 0, rank, 1); bsend(0, 0, 0, rank, 1); } else { recv(0, any, 0); recv(0, any, 0); }"
		case 1:
			ranks, text = 3, "irecv(0, any, 0); bsend(0, 0, 0, 0, 1); bsend(0, 1, 0, 0, 1); test(0);"
		}
		p := parsed(t, text)
		cfg, e := Enough(p, api.Config{Ranks: ranks, Eager: d.Throw(3), Polls: d.Throw(4), Loose: d.Throw(2) == 0})
		if e != api.OK {
			continue
		}
		c, _ := front.Compile([]byte(text))
		r, e := explore.Explore(c, cfg)
		if e != api.OK || !r.Complete() || r.Many > cfg.Runs || !Fits(p, cfg) {
			t.Fatalf("%d: %d runs of %d, why %d", seed, r.Many, cfg.Runs, r.Why)
		}
		for _, o := range r.Runs {
			if len(o.Schedule) > cfg.Steps {
				t.Fatalf("%d: %d picks of %d", seed, len(o.Schedule), cfg.Steps)
			}
		}
		if b, _ := bound.Of(p, ranks); b.Decisions == 0 && (cfg.Runs != 1 || r.Many != 1) {
			t.Fatalf("%d: no decisions, %d runs", seed, r.Many)
		}
		held, runs = held+1, max(runs, r.Many)
	}
	if held < 100 || runs < 8 {
		t.Errorf("%d programs, up to %d runs", held, runs)
	}
}

// TestProducts: P30.5.
func TestProducts(t *testing.T) {
	for seed := range 200 {
		a, b := parsed(t, sample.Talk(seed, 2, 2)), parsed(t, sample.Talk(seed+1000, 2, 2))
		both := tree.Program{Decls: a.Decls, Body: append(append([]tree.Stmt{}, a.Body...), b.Body...)}
		last := 0
		for ranks := 1; ranks <= 4; ranks++ {
			x, y, z := Far, Far, Far
			if n, e := Runs(a, ranks); e == api.OK {
				x = n
			}
			if n, e := Runs(b, ranks); e == api.OK {
				y = n
			}
			if n, e := Runs(both, ranks); e == api.OK {
				z = n
			}
			if x*y <= api.MaxRuns && z != x*y || x*y > api.MaxRuns && z != Far || z < last {
				t.Fatalf("%d: %d, %d, both %d, ahead %d", seed, x, y, z, last)
			}
			last = z
		}
	}
}
