package run

import (
	"reflect"
	"slices"
	"testing"

	"dispatcher/api"
	"dispatcher/choice"
	"dispatcher/code"
	"dispatcher/front"
	"dispatcher/inter"
	"dispatcher/path"
	"dispatcher/sample"
	"dispatcher/tree"
)

func compiled(t *testing.T, s string) code.Program {
	t.Helper()
	p, w := front.Compile([]byte(s))
	if w != (tree.Wrong{}) {
		t.Fatalf("%q: %v", s, w)
	}
	return p
}

func ran(t *testing.T, p code.Program, cfg api.Config, l ...path.Step) Out {
	t.Helper()
	o, e := Run(p, cfg, l)
	if e != api.OK {
		t.Fatalf("%v: %d", l, e)
	}
	return o
}

func take(rank, call, from, seq int) path.Step {
	return path.Step{Rank: rank, Call: call, Choice: api.Choice{Rank: rank, Call: call, From: from, Seq: seq}}
}

func off(rank, call int) path.Step { return path.Step{Off: true, Rank: rank, Call: call} }

// TestRun: P25.1: the chapter's example, and wrong steps.
func TestRun(t *testing.T) {
	p := compiled(t, "if rank { bsend(0, 0, 0, rank, 1); } else { recv(0, any, 0); }")
	cfg := api.Config{Ranks: 3, Steps: 50}
	one, two := api.Choice{From: 1}, api.Choice{From: 2}
	o := ran(t, p, cfg)
	want := []Met{{choice.Point{Values: []api.Choice{one, two}}, false}}
	if o.End != Listed || !reflect.DeepEqual(o.Met, want) || !slices.Equal(o.Steps, []path.Step{take(0, 0, 1, 0)}) || len(o.Schedule) != 7 || !o.State.Terminal() || !slices.Equal(o.State.Signature(), []api.Choice{one}) {
		t.Errorf("%v", o)
	}
	o = ran(t, p, cfg, take(0, 0, 2, 0))
	if o.End != Listed || !reflect.DeepEqual(o.Met, want) || !slices.Equal(o.State.Signature(), []api.Choice{two}) {
		t.Errorf("%v", o)
	}
	for i, l := range [][]path.Step{
		{off(0, 0)}, {take(0, 0, 3, 0)}, {take(0, 1, 1, 0)}, {take(1, 0, 1, 0)}, {{Rank: 0, Call: 0, Choice: api.Choice{Rank: 1, From: 1}}}, {{Rank: 1, Call: 0, Choice: one}}, {{Off: true, Choice: one}}, {{}}, {take(0, 0, 1, 1)},
	} {
		if o := ran(t, p, cfg, l...); o.End != Wrong || len(o.Met) != 0 || len(o.Steps) != 0 || len(o.Schedule) != 5 || len(o.State.Signature()) != 0 {
			t.Errorf("%d: %v", i, o)
		}
	}
	if o := ran(t, p, cfg, take(0, 0, 1, 0), take(0, 0, 2, 0)); o.End != Wrong || len(o.Met) != 1 || len(o.Steps) != 1 || len(o.Schedule) != 7 {
		t.Errorf("no point for a step: %v", o)
	}
	for _, x := range []struct {
		p   code.Program
		cfg api.Config
		e   api.Errno
	}{{p, api.Config{Ranks: 3}, api.ErrArg}, {p, api.Config{Ranks: 0, Steps: 5}, api.ErrArg}, {p, api.Config{Ranks: 3, Steps: api.MaxSteps + 1}, api.ErrArg}, {code.Program{}, cfg, api.ErrCode}} {
		if o, e := Run(x.p, x.cfg, nil); e != x.e || !reflect.DeepEqual(o, Out{}) {
			t.Errorf("%v: %d", x.cfg, e)
		}
	}
}

// TestOff: P25.1, P25.4: points that are put off.
func TestOff(t *testing.T) {
	p := compiled(t, "if rank == 1 { bsend(0, 0, 0, 0, 1); recv(0, any, 0); } if rank == 0 { recv(0, any, 0); } if rank == 2 { bsend(0, 1, 0, 0, 1); bsend(0, 0, 0, 0, 1); }")
	cfg := api.Config{Ranks: 3, Steps: 50}
	o := ran(t, p, cfg, off(0, 0))
	if o.End != Blocked || o.State.Terminal() || len(o.Met) != 2 || !o.Met[0].Off || o.Met[1].Off || !slices.Equal(o.Steps, []path.Step{off(0, 0), take(1, 1, 2, 0)}) {
		t.Errorf("%v", o)
	}
	if !slices.Equal(o.State.Signature(), []api.Choice{{Rank: 1, Call: 1, From: 2}}) {
		t.Errorf("%v", o.State.Signature())
	}
	if o := ran(t, p, cfg, off(0, 0), off(1, 1)); o.End != Wrong || len(o.Met) != 1 {
		t.Errorf("the only open one: %v", o)
	}
	if o := ran(t, p, cfg, off(0, 0), take(0, 0, 1, 0)); o.End != Wrong || len(o.Met) != 1 {
		t.Errorf("what is excluded: %v", o)
	}
	if o := ran(t, p, cfg, off(0, 0), take(1, 1, 2, 0), take(0, 0, 1, 0)); o.End != Wrong || len(o.Met) != 2 {
		t.Errorf("a blocked one has no next point: %v", o)
	}
	// A second sender that sends only behind another receive.
	later := compiled(t, "if rank == 1 { bsend(0, 0, 0, 0, 1); recv(0, any, 0); } if rank == 0 { recv(0, any, 0); } if rank == 2 { bsend(0, 1, 0, 0, 1); recv(0, 1, 3); bsend(0, 0, 0, 0, 1); } if rank == 1 { bsend(0, 2, 3, 0, 1); }")
	o = ran(t, later, cfg, off(0, 0))
	if o.End != Listed || !slices.Equal(o.Steps, []path.Step{off(0, 0), take(1, 1, 2, 0), take(0, 0, 2, 2)}) || len(o.Met[2].Point.Values) != 1 {
		t.Errorf("%v", o)
	}
}

// TestCut: P25.1: cut runs.
func TestCut(t *testing.T) {
	p := compiled(t, "if rank { bsend(0, 0, 0, rank, 1); } else { recv(0, any, 0); }")
	for steps := 1; steps <= 8; steps++ {
		o := ran(t, p, api.Config{Ranks: 3, Steps: steps})
		if o.End == Cut != (len(o.Schedule) == steps && !o.State.Terminal()) || len(o.Schedule) > steps {
			t.Errorf("%d: %d, %d picks", steps, o.End, len(o.Schedule))
		}
	}
	short := compiled(t, "recv(0, any, 0);")
	if o := ran(t, short, api.Config{Ranks: 1, Steps: 5}); o.End != Listed || len(o.Schedule) != 1 {
		t.Errorf("%v", o)
	}
	if o := ran(t, short, api.Config{Ranks: 1, Steps: 1}); o.End != Cut || len(o.Schedule) != 1 {
		t.Errorf("%v", o)
	}
	loop := compiled(t, "while 1 { }")
	if o := ran(t, loop, api.Config{Ranks: 1, Steps: 9}, take(0, 0, 0, 0)); o.End != Cut || len(o.Schedule) != 9 || len(o.Met) != 0 {
		t.Errorf("%v", o)
	}
}

// TestWrongAhead: P25.1: that a step is wrong is told ahead of a cut; a step that puts off is no pick.
func TestWrongAhead(t *testing.T) {
	p := compiled(t, "irecv(0, any, 0); isend(0, rank, 0, 0, 1);")
	whole := ran(t, p, api.Config{Ranks: 2, Steps: 99})
	at := slices.IndexFunc(whole.Schedule, func(p api.Pick) bool { return p.Kind == api.PkMatch })
	cfg := api.Config{Ranks: 2, Steps: max(at, 6)}
	if at < 6 {
		t.Fatalf("%v", whole.Schedule)
	}
	if o := ran(t, p, cfg); o.End != Cut || len(o.Met) != 0 || len(o.Schedule) != at {
		t.Errorf("%v", o)
	}
	if o := ran(t, p, cfg, take(0, 0, 1, 0)); o.End != Wrong || len(o.Schedule) != at {
		t.Errorf("%v", o)
	}
	if o := ran(t, p, cfg, take(0, 0, 0, 1)); o.End != Cut || len(o.Met) != 0 {
		t.Errorf("%v", o)
	}
	if o := ran(t, p, cfg, off(0, 0)); o.End != Cut || len(o.Met) != 1 || !slices.Equal(o.Steps, []path.Step{off(0, 0)}) {
		t.Errorf("%v", o)
	}
	cfg.Steps++
	if o := ran(t, p, cfg); o.End != Cut || len(o.Met) != 1 || len(o.Steps) != 1 || len(o.Schedule) != at+1 {
		t.Errorf("%v", o)
	}
}

// TestMany: P25.2, P25.3, P25.4.
func TestMany(t *testing.T) {
	ends := map[uint8]int{}
	for seed := range 400 {
		d := sample.Seeded(seed)
		ranks := 2 + d.Throw(3)
		p := compiled(t, sample.Talk(seed, ranks, 6))
		cfg := api.Config{Ranks: ranks, Steps: 8 + d.Throw(60), Eager: d.Throw(2), Polls: d.Throw(3)}
		var steps []path.Step
		for range 8 {
			o := ran(t, p, cfg, steps...)
			ends[o.End]++
			follow(t, p, cfg, o)
			again := ran(t, p, cfg, o.Steps...)
			if !same(o, again) {
				t.Fatalf("%d: another run by the same steps", seed)
			}
			plain := len(o.Steps)
			for plain > 0 && !o.Steps[plain-1].Off && o.Steps[plain-1].Choice == o.Met[plain-1].Point.Values[0] {
				plain--
			}
			if begun := ran(t, p, cfg, o.Steps[:plain]...); !same(o, begun) {
				t.Fatalf("%d: another run by the beginning", seed)
			}
			if len(o.Met) == 0 {
				break
			}
			at := d.Throw(len(o.Met))
			m := o.Met[at]
			next := off(m.Point.Rank, m.Point.Call)
			if !m.Off || d.Throw(2) == 0 {
				c := m.Point.Values[d.Throw(len(m.Point.Values))]
				next = path.Step{Rank: c.Rank, Call: c.Call, Choice: c}
			}
			steps = append(slices.Clone(o.Steps[:at]), next)
		}
	}
	if ends[Listed] == 0 || ends[Blocked] == 0 || ends[Cut] == 0 || ends[Wrong] > 0 {
		t.Errorf("%v", ends)
	}
}

func same(a, b Out) bool {
	return a.End == b.End && reflect.DeepEqual(a.Met, b.Met) && slices.Equal(a.Steps, b.Steps) && slices.Equal(a.Schedule, b.Schedule) && inter.Same(a.State, b.State)
}

// follow does a run's schedule in the model.
func follow(t *testing.T, p code.Program, cfg api.Config, o Out) {
	s, _ := inter.New(p, cfg)
	for _, x := range o.Schedule {
		if e := s.Do(x); e != api.OK {
			t.Fatalf("%v: %d", x, e)
		}
	}
	if !inter.Same(s, o.State) || o.End == Listed != (o.End != Cut && s.Terminal()) || o.End == Blocked && s.Terminal() || len(o.Schedule) > cfg.Steps || len(o.Met) != len(o.Steps) {
		t.Fatalf("%d: %v", o.End, o.Schedule)
	}
	taken, excluded := 0, map[api.Choice]int{}
	for i, step := range o.Steps {
		m := o.Met[i]
		if step.Off {
			if !m.Off {
				t.Fatalf("%v", m)
			}
			for _, c := range m.Point.Values {
				excluded[c]++
			}
			continue
		}
		taken++
		if excluded[step.Choice] > 0 || !choice.Has(m.Point, step.Choice) || !slices.Contains(s.Signature(), step.Choice) {
			t.Fatalf("%v", step)
		}
	}
	if taken != len(s.Signature()) {
		t.Fatalf("%d of %v", taken, s.Signature())
	}
}
