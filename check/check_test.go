package check

import (
	"reflect"
	"slices"
	"strings"
	"testing"

	"dispatcher/api"
	"dispatcher/code"
	"dispatcher/explore"
	"dispatcher/fence"
	"dispatcher/front"
	"dispatcher/inter"
	"dispatcher/report"
	"dispatcher/sample"
	"dispatcher/sign"
	"dispatcher/tree"
	"dispatcher/verdict"
	"dispatcher/witness"
)

func checked(t *testing.T, s string, cfg api.Config) Result {
	t.Helper()
	r, w, e := Check([]byte(s), cfg)
	if w != (tree.Wrong{}) || e != api.OK {
		t.Fatalf("%q: %v %d", s, w, e)
	}
	return r
}

// TestExamples: P31.1, P31.2: the ten examples of the whole, and the chapter's.
func TestExamples(t *testing.T) {
	later := "if rank == 1 { bsend(0, 0, 0, 0, 1); recv(0, any, 0); bsend(0, 2, 3, 0, 1); } if rank == 0 { recv(0, any, 0); %% } if rank == 2 { bsend(0, 1, 0, 0, 1); recv(0, 1, 3); %% }"
	for _, x := range []struct {
		s    string
		cfg  api.Config
		want string
		sure bool
	}{
		{"if rank == 0 { recv(0, 1, 5); } else { send(0, 0, 5, 7, 1); }", api.Config{Ranks: 2}, "complete|runs 1 listed 1 blocked 0 cut 0|clean 1", true},
		{"int x; if rank { send(0, 0, 5, rank, 1); } else { recv(0, any, 5); x = value; recv(0, any, 5); assert x == 1; }", api.Config{Ranks: 3}, "complete|runs 2 listed 2 blocked 0 cut 0|clean 1|failed 1", false},
		{"send(0, 1 - rank, 0, 0, 1); recv(0, 1 - rank, 0);", api.Config{Ranks: 2}, "complete|runs 1 listed 1 blocked 0 cut 0|clean 0|deadlock 1|orphan 1", false},
		{"send(0, 1 - rank, 0, 0, 1); recv(0, 1 - rank, 0);", api.Config{Ranks: 2, Eager: 1}, "complete|runs 1 listed 1 blocked 0 cut 0|clean 1", true},
		{strings.Replace(strings.Replace(later, "%%", "recv(0, any, 0);", 1), "%%", "bsend(0, 0, 0, 0, 1);", 1), api.Config{Ranks: 3}, "complete|runs 2 listed 2 blocked 0 cut 0|clean 2", true},
		{strings.Replace(strings.Replace(later, "%%", "", 1), "%%", "", 1), api.Config{Ranks: 3}, "complete|runs 2 listed 1 blocked 1 cut 0|clean 1", true},
		{"isend(0, 0, 0, 0, 1); test(0); if flag == 0 { wait(0); }", api.Config{Ranks: 1, Polls: 1, Eager: 1}, "complete|runs 2 listed 2 blocked 0 cut 0|clean 0|orphan 2", false},
		{"irecv(0, 0, 0); bsend(0, 0, 1, 0, 1);", api.Config{Ranks: 1}, "complete|runs 1 listed 1 blocked 0 cut 0|clean 0|left 1|orphan 1", false},
		{"if rank { barrier(0); } else { bcast(0, 0, 1); }", api.Config{Ranks: 2}, "complete|runs 1 listed 1 blocked 0 cut 0|clean 0|deadlock 1|odd 1", false},
		{"if rank { assert 1 / 0; }", api.Config{Ranks: 2}, "complete|runs 1 listed 1 blocked 0 cut 0|clean 0|fault 1", false},
		{"while 1 { }", api.Config{Ranks: 1}, "incomplete: steps|runs 1 listed 0 blocked 0 cut 1|clean 0", false},
		{"if rank { send(0, 0, 0, rank, 1); } else { recv(0, any, 0); recv(0, any, 0); }", api.Config{Ranks: 2}, "complete|runs 1 listed 1 blocked 0 cut 0|clean 0|deadlock 1", false},
		{"if rank { send(0, 0, 0, rank, 1); } else { recv(0, any, 0); recv(0, any, 0); }", api.Config{Ranks: 3}, "complete|runs 2 listed 2 blocked 0 cut 0|clean 2", true},
		{"if rank { send(0, 0, 0, rank, 1); } else { recv(0, any, 0); recv(0, any, 0); }", api.Config{Ranks: 3, Runs: 1}, "incomplete: runs|runs 1 listed 1 blocked 0 cut 0|clean 1", false},
		{"iprobe(0, 0, 0);", api.Config{Ranks: 1}, "complete|runs 1 listed 1 blocked 0 cut 0|clean 0|poll 1", false},
	} {
		cfg := x.cfg
		cfg.Steps, cfg.Runs = 200, max(cfg.Runs, 1)
		if x.cfg.Runs == 0 {
			cfg.Runs = 99
		}
		r := checked(t, x.s, cfg)
		if got := strings.Join(r.Lines(), "|"); got != x.want || r.Sure() != x.sure {
			t.Errorf("%s: %s, %v", x.s, got, r.Sure())
		}
	}
}

// TestLines: P31.2: whatever a Result says.
func TestLines(t *testing.T) {
	for _, x := range []struct {
		r    Result
		want string
		sure bool
	}{
		{Result{}, "complete|runs 0 listed 0 blocked 0 cut 0|clean 0", true},
		{Result{Runs: 9, Blocked: -3, Cuts: 4, Clean: 1, Why: api.ErrFull, Items: make([]Item, 1)}, "incomplete: full|runs 9 listed 1 blocked -3 cut 4|clean 1", false},
		{Result{Why: api.ErrNil}, "incomplete: full|runs 0 listed 0 blocked 0 cut 0|clean 0", false},
		{Result{Items: make([]Item, 2), Clean: 2}, "complete|runs 0 listed 2 blocked 0 cut 0|clean 2", true},
		{Result{Items: make([]Item, 2), Clean: 3}, "complete|runs 0 listed 2 blocked 0 cut 0|clean 3", false},
		{Result{Found: []Found{{Kind: verdict.KOrphan | verdict.KDeadlock, Many: 7, Place: -1}, {Kind: 0, Many: 8}, {Kind: 128, Many: 8}, {Kind: verdict.KPoll, Many: -1}}}, "complete|runs 0 listed 0 blocked 0 cut 0|clean 0|deadlock 7|orphan 7|poll -1", true},
	} {
		if got := strings.Join(x.r.Lines(), "|"); got != x.want || x.r.Sure() != x.sure {
			t.Errorf("%s, %v", got, x.r.Sure())
		}
	}
}

// TestWrong: P31.1, P31.3, P31.4: what is wrong, and errors.
func TestWrong(t *testing.T) {
	good := api.Config{Ranks: 2, Steps: 50, Runs: 50}
	many := "int x;" + strings.Repeat("x=1;", 2100)
	for s, want := range map[string]tree.Wrong{"x = ;": {Err: api.ErrTree, Line: 1, Column: 5}, "$": {Err: api.ErrScan, Line: 1, Column: 1}, "x = 1;": {Err: api.ErrScope, Line: 1, Column: 1}, many: {Err: api.ErrFull}} {
		for _, cfg := range []api.Config{good, {}} {
			r, w, e := Check([]byte(s), cfg)
			b, w2, e2 := Budget([]byte(s), cfg)
			l, e3 := Show([]byte(s), cfg, Result{Items: make([]Item, 1)}, 0)
			if !reflect.DeepEqual(r, Result{}) || w != want || e != api.OK || b != (api.Config{}) || w2 != want || e2 != api.OK || l != nil || e3 != api.ErrArg {
				t.Errorf("%.20q: %v %d, %v %d, %d", s, w, e, w2, e2, e3)
			}
		}
	}
	for _, cfg := range []api.Config{{}, {Ranks: 2, Steps: 50}, {Ranks: 2, Runs: 50}, {Ranks: 65, Steps: 50, Runs: 50}, {Ranks: 2, Steps: 50, Runs: api.MaxRuns + 1}} {
		if r, w, e := Check([]byte("stop;"), cfg); !reflect.DeepEqual(r, Result{}) || w != (tree.Wrong{}) || e != api.ErrArg {
			t.Errorf("%v: %d", cfg, e)
		}
	}
	for s, want := range map[string]api.Errno{"while 1 { }": api.ErrLimit, "int x; for x < 100 { recv(0, any, 0); }": api.ErrLimit} {
		if cfg, w, e := Budget([]byte(s), good); cfg != (api.Config{}) || w != (tree.Wrong{}) || e != want {
			t.Errorf("%s: %v %d", s, cfg, e)
		}
	}
	if cfg, _, e := Budget([]byte("stop;"), api.Config{}); cfg != (api.Config{}) || e != api.ErrArg {
		t.Errorf("%v %d", cfg, e)
	}
	if cfg, w, e := Budget([]byte("recv(0, any, 0);"), api.Config{Ranks: 2, Eager: 7, Polls: 3}); cfg != (api.Config{Ranks: 2, Eager: 7, Polls: 3, Runs: 9, Steps: 6}) || w != (tree.Wrong{}) || e != api.OK {
		t.Errorf("%v %d", cfg, e)
	}
}

// TestShow: P31.3.
func TestShow(t *testing.T) {
	text := []byte("if rank { send(0, 0, 0, 7, 1); } else { recv(0, any, 0); }")
	cfg := api.Config{Ranks: 2, Steps: 50, Runs: 50, Eager: 1}
	r := checked(t, string(text), cfg)
	l, e := Show(text, cfg, r, 0)
	if e != api.OK || strings.Join(l, "|") != "rank 0 done|rank 1 done|signature 0.0.0.1.0|schedule g.0 g.1 g.1 m.0.0.1.0 g.0" {
		t.Errorf("%v %d", l, e)
	}
	for _, n := range []int{-1, 1, 1 << 40} {
		if l, e := Show(text, cfg, r, n); l != nil || e != api.ErrArg {
			t.Errorf("%d: %v %d", n, l, e)
		}
	}
	if l, e := Show(text, cfg, Result{Items: []Item{{}}}, 0); l != nil || e != api.ErrPath {
		t.Errorf("%v %d", l, e)
	}
	if l, e := Show(text, api.Config{}, r, 0); l != nil || e != api.ErrArg {
		t.Errorf("%v %d", l, e)
	}
}

// TestFound: P31.1: which finding is told of a kind.
func TestFound(t *testing.T) {
	item := func(picks int, v verdict.Verdict) Item { return Item{Schedule: make([]api.Pick, picks), Verdict: v} }
	failed, left := verdict.Verdict{Ends: []verdict.End{{How: api.EdFailed}}}, verdict.Verdict{Left: make([]verdict.Leak, 1)}
	both := verdict.Verdict{Ends: failed.Ends, Left: left.Left}
	l := []Item{item(9, left), item(5, verdict.Verdict{}), item(7, both), item(7, failed), item(8, both), item(6, left), item(6, left)}
	if got := found(l); !slices.Equal(got, []Found{{verdict.KFailed, 3, 2}, {verdict.KLeft, 5, 5}}) {
		t.Errorf("%v", got)
	}
	if found(nil) != nil {
		t.Errorf("of none")
	}
}

// ends tells the terminal states of the model, by signatures' texts: at fences, each decision that can be taken is.
func ends(t *testing.T, p code.Program, cfg api.Config) map[string]*inter.State {
	out, seen := map[string]*inter.State{}, map[string]int{}
	first, _ := inter.New(p, cfg)
	todo := []*inter.State{first}
	for len(todo) > 0 {
		s := todo[len(todo)-1]
		todo = todo[:len(todo)-1]
		if _, e := fence.To(s, 10000); e != api.OK {
			t.Fatal(e)
		}
		key, _ := sign.Text(s.Signature())
		if seen[key]++; seen[key] > 1 {
			continue
		}
		if s.Terminal() {
			out[key] = s
		}
		for _, pick := range s.Enabled() {
			c := s.Copy()
			c.Do(pick)
			todo = append(todo, c)
		}
	}
	return out
}

// TestMany: P31.5, P31.6, P31.7, and P1, P2, P6 of the whole.
func TestMany(t *testing.T) {
	complete, cut := 0, 0
	for seed := range 400 {
		d := sample.Seeded(seed)
		ranks := 2 + d.Throw(3)
		text := sample.Talk(seed, ranks, 2+seed%5)
		cfg := api.Config{Ranks: ranks, Steps: 200, Runs: 1 + d.Throw(300), Eager: d.Throw(3), Polls: d.Throw(3), Loose: d.Throw(2) == 0}
		if seed%4 == 0 {
			cfg.Steps = 10 + d.Throw(10)
		}
		r := checked(t, text, cfg)
		p, _ := front.Compile([]byte(text))
		all, _ := explore.Explore(p, cfg)
		if len(r.Items) != len(all.Runs) || r.Runs != all.Many || r.Blocked != all.Blocked || r.Cuts != all.Cuts || r.Why != all.Why {
			t.Fatalf("%d: %v", seed, r)
		}
		clean, kinds := 0, map[uint8]int{}
		for i, x := range r.Items {
			s, done, e := witness.Play(p, cfg, x.Schedule)
			v, e2 := verdict.Of(s)
			if e != api.OK || e2 != api.OK || done != len(x.Schedule) || !verdict.Same(v, x.Verdict) || !slices.Equal(s.Signature(), x.Sign) {
				t.Fatalf("%d: %v", seed, x)
			}
			if v.Clean() {
				clean++
			}
			for bit := range 7 {
				kinds[1<<bit] += int(v.Kinds() >> bit & 1)
			}
			shown, e := Show([]byte(text), cfg, r, i)
			whole, e2 := report.Whole(p, cfg, x.Sign)
			if e != e2 || !slices.Equal(shown, whole) {
				t.Fatalf("%d: %v %d", seed, shown, e)
			}
		}
		for _, f := range r.Found {
			if kinds[f.Kind] != f.Many || r.Items[f.Place].Verdict.Kinds()&f.Kind == 0 {
				t.Fatalf("%d: %v", seed, f)
			}
			delete(kinds, f.Kind)
		}
		for kind, n := range kinds {
			if n > 0 {
				t.Fatalf("%d: %d of %d are not told", seed, n, kind)
			}
		}
		if clean != r.Clean || r.Sure() != (r.Why == api.OK && clean == len(r.Items)) {
			t.Fatalf("%d: %d clean", seed, r.Clean)
		}
		if r.Cuts > 0 {
			cut++
		}
		if r.Why == api.OK {
			complete++
			model(t, p, cfg, r)
		}
	}
	if complete < 100 || cut == 0 {
		t.Errorf("%d complete, %d cut", complete, cut)
	}
}

// model holds a complete check against the model.
func model(t *testing.T, p code.Program, cfg api.Config, r Result) {
	is := ends(t, p, cfg)
	for _, x := range r.Items {
		key, _ := sign.Text(x.Sign)
		s := is[key]
		if v, e := verdict.Of(s); e != api.OK || !verdict.Same(v, x.Verdict) {
			t.Fatalf("%s: %v, not %v", key, x.Verdict, v)
		}
		delete(is, key)
	}
	if len(is) > 0 {
		t.Fatalf("not found: %v", is)
	}
}
