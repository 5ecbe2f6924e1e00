package explore

import (
	"fmt"
	"reflect"
	"slices"
	"strings"
	"testing"

	"dispatcher/api"
	"dispatcher/code"
	"dispatcher/front"
	"dispatcher/inter"
	"dispatcher/path"
	"dispatcher/run"
	"dispatcher/sample"
	"dispatcher/sign"
	"dispatcher/tree"
)

func compiled(t *testing.T, s string) code.Program {
	t.Helper()
	p, w := front.Compile([]byte(s))
	if w != (tree.Wrong{}) {
		t.Fatalf("%q: %v", s, w)
	}
	return p
}

func explored(t *testing.T, s string, cfg api.Config) Result {
	t.Helper()
	r, e := Explore(compiled(t, s), cfg)
	if e != api.OK {
		t.Fatalf("%q: %d", s, e)
	}
	return r
}

// TestExplore: P26.1, P26.2: examples of the chapter and of the whole.
func TestExplore(t *testing.T) {
	cfg := api.Config{Ranks: 3, Steps: 100, Runs: 100}
	later := "if rank == 1 { bsend(0, 0, 0, 0, 1); recv(0, any, 0); } if rank == 0 { recv(0, any, 0); } if rank == 2 { bsend(0, 1, 0, 0, 1); recv(0, 1, 3); %s } if rank == 1 { bsend(0, 2, 3, 0, 1); }"
	for s, want := range map[string][3]int{
		"if rank { bsend(0, 0, 0, rank, 1); } else { recv(0, any, 0); }": {2, 2, 0}, "if rank { bsend(0, 0, 0, rank, 1); } else { recv(0, any, 0); recv(0, any, 0); }": {2, 2, 0}, "stop;": {1, 1, 0}, "if rank == 0 { recv(0, 1, 5); } if rank == 1 { send(0, 0, 5, 7, 1); }": {1, 1, 0},
		fmt.Sprintf(later, "bsend(0, 0, 0, 0, 1);"): {2, 2, 0}, fmt.Sprintf(later, ""): {2, 1, 1}, "iprobe(0, 0, 0);": {1, 1, 0},
	} {
		r := explored(t, s, cfg)
		if r.Many != want[0] || len(r.Runs) != want[1] || r.Blocked != want[2] || r.Cuts != 0 || r.Why != api.OK || !r.Complete() {
			t.Errorf("%s: %d runs, %d listed, %d blocked, why %d", s, r.Many, len(r.Runs), r.Blocked, r.Why)
		}
	}
	poll := cfg
	poll.Polls, poll.Ranks = 1, 1
	r := explored(t, "isend(0, 0, 0, 0, 1); irecv(0, 0, 0); test(1); wait(1);", poll)
	if len(r.Runs) != 2 || r.Many != 2 || !r.Complete() {
		t.Errorf("a poll: %d %d", r.Many, len(r.Runs))
	}
	r = explored(t, "if rank { bsend(0, 0, 0, rank, 1); } else { recv(0, any, 0); }", cfg)
	for i, from := range []int{1, 2} {
		if r.Find([]api.Choice{{From: from}}) != i {
			t.Errorf("%d", from)
		}
	}
	if r.Find(nil) != -1 || r.Find([]api.Choice{{From: 3}}) != -1 || (Result{}).Find(nil) != -1 || !(Result{}).Complete() || (Result{Why: api.ErrSteps}).Complete() || (Result{Runs: make([]run.Out, 1)}).Find([]api.Choice{{}}) != -1 {
		t.Errorf("find")
	}
}

// TestWhy: P26.1: errors, and what was not enough.
func TestWhy(t *testing.T) {
	s := "if rank { bsend(0, 0, 0, rank, 1); } else { recv(0, any, 0); }"
	p := compiled(t, s)
	cfg := api.Config{Ranks: 3, Steps: 100, Runs: 1}
	if r, e := Explore(p, cfg); e != api.OK || r.Many != 1 || len(r.Runs) != 1 || r.Why != api.ErrRuns || r.Complete() {
		t.Errorf("%v %d", r, e)
	}
	for _, x := range []struct {
		p   code.Program
		cfg api.Config
		e   api.Errno
	}{{p, api.Config{Ranks: 3, Steps: 100}, api.ErrArg}, {p, api.Config{Ranks: 3, Steps: 100, Runs: -1}, api.ErrArg}, {p, api.Config{Ranks: 3, Steps: 100, Runs: api.MaxRuns + 1}, api.ErrArg}, {p, api.Config{Ranks: 3, Runs: 1}, api.ErrArg}, {p, api.Config{Ranks: 65, Steps: 9, Runs: 1}, api.ErrArg}, {code.Program{}, cfg, api.ErrCode}, {code.Program{}, api.Config{}, api.ErrArg}} {
		if r, e := Explore(x.p, x.cfg); e != x.e || !reflect.DeepEqual(r, Result{}) {
			t.Errorf("%v: %d", x.cfg, e)
		}
	}
	loop := explored(t, "while 1 { }", api.Config{Ranks: 1, Steps: 5, Runs: 9})
	if loop.Many != 1 || loop.Cuts != 1 || len(loop.Runs) != 0 || loop.Why != api.ErrSteps {
		t.Errorf("%v", loop)
	}
	both := explored(t, "if rank == 2 { while 1 { } } if rank { bsend(0, 0, 0, rank, 1); } else { recv(0, any, 0); }", api.Config{Ranks: 3, Steps: 50, Runs: 9})
	if both.Cuts == 0 || both.Why != api.ErrSteps {
		t.Errorf("%v", both)
	}
	// A run of more than 2000 decisions: a stack takes no more.
	long := explored(t, "int i; int k; for i < 3 { for k < 670 { bsend(0, 0, 0, 0, 1); recv(0, any, 0); } }", api.Config{Ranks: 1, Steps: 20000, Runs: 3})
	if long.Many != 1 || len(long.Runs) != 1 || long.Why != api.ErrFull {
		t.Errorf("%d %d %d", long.Many, len(long.Runs), long.Why)
	}
}

func text(t *testing.T, l []api.Choice) string {
	s, e := sign.Text(l)
	if e != api.OK {
		t.Fatalf("%v", l)
	}
	return s
}

// model goes all ways of the model, pick by pick, in all orders, and tells the terminal states by signatures; no, if there are too many states.
func model(t *testing.T, p code.Program, cfg api.Config, all bool) (map[string]*inter.State, bool) {
	first, e := inter.New(p, cfg)
	if e != api.OK {
		t.Fatal(e)
	}
	ends := map[string]*inter.State{}
	seen := map[string]int{"": 1}
	type node struct {
		s    *inter.State
		done []string
	}
	todo := []node{{first, nil}}
	for len(todo) > 0 {
		n := todo[len(todo)-1]
		todo = todo[:len(todo)-1]
		l := n.s.Enabled()
		if len(l) == 0 {
			key := text(t, n.s.Signature())
			if old := ends[key]; old != nil && (!inter.Same(old, n.s) || old.Done() != n.s.Done()) {
				t.Fatalf("two ends with the signature %s", key)
			}
			ends[key] = n.s
		}
		if i := slices.IndexFunc(l, n.s.Forced); !all && i >= 0 {
			l = l[i : i+1]
		}
		for _, pick := range l {
			// A state is told by which picks came to it, however they were ordered.
			done := append(slices.Clone(n.done), fmt.Sprint(pick))
			slices.Sort(done)
			key := strings.Join(done, ";")
			if seen[key] > 0 {
				continue
			}
			seen[key]++
			s := n.s.Copy()
			if s.Do(pick) != api.OK {
				t.Fatalf("%v", pick)
			}
			todo = append(todo, node{s, done})
		}
		if len(seen) > 3000 {
			return nil, false
		}
	}
	return ends, true
}

// TestModel: P26.3, P26.4, P26.6, and P1, P2, P3 of the whole, against all ways of the model.
func TestModel(t *testing.T) {
	held, most, deepest, blocked := 0, 0, 0, 0
	for seed := range 700 {
		d := sample.Seeded(seed)
		ranks := 2 + d.Throw(3)
		p := compiled(t, sample.Talk(seed, ranks, 2+seed%5))
		cfg := api.Config{Ranks: ranks, Steps: 500, Runs: 3000, Eager: d.Throw(3), Polls: d.Throw(3), Loose: d.Throw(2) == 0}
		r, e := Explore(p, cfg)
		if e != api.OK {
			t.Fatalf("%d: %d", seed, e)
		}
		once(t, p, cfg, r)
		if !r.Complete() {
			continue
		}
		ends, ok := model(t, p, cfg, seed%3 == 0)
		if !ok {
			continue
		}
		held++
		most, blocked = max(most, len(r.Runs)), blocked+r.Blocked
		if len(ends) != len(r.Runs) {
			t.Fatalf("%d: %d ends, %d listed", seed, len(ends), len(r.Runs))
		}
		for _, o := range r.Runs {
			l := o.State.Signature()
			deepest = max(deepest, len(l))
			if end := ends[text(t, l)]; end == nil || !inter.Same(end, o.State) {
				t.Fatalf("%d: %s is no end of the model", seed, text(t, l))
			}
		}
	}
	if held < 400 || most < 20 || deepest < 6 || blocked < 20 {
		t.Errorf("%d programs, up to %d runs, %d decisions, %d blocked", held, most, deepest, blocked)
	}
}

// once asks whether no two runs are the same, each is sound, and all are counted.
func once(t *testing.T, p code.Program, cfg api.Config, r Result) {
	signs, steps := map[string]int{}, map[string]int{}
	for i, o := range r.Runs {
		a, b := text(t, o.State.Signature()), path.Text(o.Steps)
		signs[a]++
		steps[b]++
		if signs[a] > 1 || steps[b] > 1 || o.End != run.Listed || r.Find(o.State.Signature()) != i || len(o.Schedule) > cfg.Steps {
			t.Fatalf("%s by %s", a, b)
		}
		s, _ := inter.New(p, cfg)
		for _, pick := range o.Schedule {
			if e := s.Do(pick); e != api.OK {
				t.Fatalf("%v: %d", pick, e)
			}
		}
		if !s.Terminal() || !inter.Same(s, o.State) {
			t.Fatalf("%s doesn't lead to its state", a)
		}
	}
	if len(r.Runs)+r.Blocked+r.Cuts != r.Many || r.Many > cfg.Runs {
		t.Fatalf("%d runs: %d, %d, %d", r.Many, len(r.Runs), r.Blocked, r.Cuts)
	}
}

// TestLess: P26.5.
func TestLess(t *testing.T) {
	for seed := range 60 {
		d := sample.Seeded(seed)
		p := compiled(t, sample.Talk(seed, 3, 6))
		cfg := api.Config{Ranks: 3, Steps: 500, Runs: 200, Eager: d.Throw(3), Polls: 1}
		whole, _ := Explore(p, cfg)
		for _, runs := range []int{1, whole.Many / 2, whole.Many - 1, whole.Many, whole.Many + 1} {
			if runs < 1 {
				continue
			}
			cfg.Runs = runs
			r, _ := Explore(p, cfg)
			if r.Many != min(runs, whole.Many) || runs < whole.Many && r.Why != api.ErrRuns || runs > whole.Many && r.Why != whole.Why && whole.Why == api.OK || whole.Why == api.OK && runs >= whole.Many && !r.Complete() {
				t.Fatalf("%d: %d runs: why %d", seed, runs, r.Why)
			}
			for i, o := range r.Runs {
				// The number of runs is the configuration's, so that states are held against one another by what else they are.
				if other := whole.Runs[i]; !slices.Equal(o.Schedule, other.Schedule) || !slices.Equal(o.Steps, other.Steps) {
					t.Fatalf("%d: run %d of %d", seed, i, runs)
				}
			}
		}
		cfg.Runs = 50
		for steps := 1; steps < 30; steps += 7 {
			cfg.Steps = steps
			r, _ := Explore(p, cfg)
			once(t, p, cfg, r)
			if r.Cuts > 0 && r.Complete() {
				t.Fatalf("%d: a cut run, and complete", seed)
			}
		}
	}
}
