package inter

import (
	"reflect"
	"slices"
	"testing"

	"dispatcher/api"
	"dispatcher/code"
	"dispatcher/front"
	"dispatcher/sample"
	"dispatcher/tree"
)

func compiled(t *testing.T, s string) code.Program {
	t.Helper()
	p, w := front.Compile([]byte(s))
	if w != (tree.Wrong{}) {
		t.Fatalf("%q: %v", s, w)
	}
	return p
}

func made(t *testing.T, s string, cfg api.Config) *State {
	t.Helper()
	state, e := New(compiled(t, s), cfg)
	if e != api.OK {
		t.Fatalf("%q: %d", s, e)
	}
	return state
}

func pick(t *testing.T, s *State, l ...api.Pick) {
	t.Helper()
	for _, p := range l {
		if e := s.Do(p); e != api.OK {
			t.Fatalf("%v: %d of %v", p, e, s.Enabled())
		}
	}
}

func goes(rank int) api.Pick { return api.Pick{Kind: api.PkGo, Rank: rank} }

func match(rank, call, from, seq int) api.Pick {
	return api.Pick{Kind: api.PkMatch, Rank: rank, Call: call, From: from, Seq: seq}
}

// TestNew: P20.1.
func TestNew(t *testing.T) {
	p := compiled(t, "stop;")
	for _, x := range []struct {
		p   code.Program
		cfg api.Config
		e   api.Errno
	}{
		{p, api.Config{Ranks: 1, Steps: 1}, 0}, {p, api.Config{Ranks: 64, Steps: api.MaxSteps, Runs: -3}, 0}, {p, api.Config{Ranks: 0, Steps: 1}, api.ErrArg}, {p, api.Config{Ranks: 1}, api.ErrArg}, {p, api.Config{Ranks: 1, Steps: api.MaxSteps + 1}, api.ErrArg},
		{p, api.Config{Ranks: 1, Steps: 1, Eager: 65}, api.ErrArg}, {p, api.Config{Ranks: 1, Steps: 1, Polls: -1}, api.ErrArg}, {code.Program{}, api.Config{Ranks: 1, Steps: 1}, api.ErrCode}, {code.Program{}, api.Config{Ranks: 1}, api.ErrArg},
	} {
		if s, e := New(x.p, x.cfg); e != x.e || (s == nil) != (e != api.OK) {
			t.Errorf("%v: %d", x.cfg, e)
		}
	}
}

// TestPicks: P20.2, P20.3, P20.4.
func TestPicks(t *testing.T) {
	s := made(t, "if rank { send(0, 0, 0, 7, 1); } else { recv(0, any, 0); iprobe(0, 1, 0); }", api.Config{Ranks: 2, Steps: 50, Polls: 1})
	if l := s.Enabled(); !slices.Equal(l, []api.Pick{goes(0), goes(1)}) || s.Done() != 0 || s.Terminal() {
		t.Fatalf("%v", l)
	}
	for _, p := range []api.Pick{{}, goes(-1), goes(2), {Kind: api.PkGo, Rank: 0, Call: 1}, match(0, 0, 1, 0)} {
		if e := s.Do(p); e != api.ErrPick || s.Forced(p) || s.Done() != 0 {
			t.Errorf("%v: %d", p, e)
		}
	}
	if !s.Forced(goes(0)) {
		t.Errorf("a PkGo is forced")
	}
	pick(t, s, goes(0))
	if l := s.Enabled(); !slices.Equal(l, []api.Pick{goes(1)}) {
		t.Fatalf("%v", l)
	}
	pick(t, s, goes(1))
	m := match(0, 0, 1, 0)
	if l := s.Enabled(); !slices.Equal(l, []api.Pick{m}) || s.Forced(m) {
		t.Fatalf("%v", l)
	}
	pick(t, s, m)
	if l := s.Signature(); !slices.Equal(l, []api.Choice{{Rank: 0, Call: 0, From: 1, Seq: 0}}) {
		t.Fatalf("%v", l)
	}
	if l := s.Enabled(); !slices.Equal(l, []api.Pick{goes(0), goes(1)}) {
		t.Fatalf("%v", l)
	}
	pick(t, s, goes(1), goes(0))
	no := api.Pick{Kind: api.PkAnswer, Rank: 0, Call: 1, Value: -1}
	if l := s.Enabled(); !slices.Equal(l, []api.Pick{no}) || s.Forced(no) {
		t.Fatalf("%v", l)
	}
	pick(t, s, no, goes(0))
	if !s.Terminal() || s.Done() != 7 || len(s.Enabled()) != 0 {
		t.Errorf("%v %d", s.Enabled(), s.Done())
	}
	l := s.Signature()
	l[0].From = 9
	if l := s.Signature(); !slices.Equal(l, []api.Choice{{Rank: 0, Call: 0, From: 1, Seq: 0}, {Rank: 0, Call: 1, Value: -1}}) {
		t.Errorf("%v", l)
	}
	for rank := range 2 {
		if how, fault := s.End(rank); how != api.EdDone || fault != api.FtNone {
			t.Errorf("%d: %d %d", rank, how, fault)
		}
	}
	if m := s.Memory(0); len(m) < 4 || m[0] != 3 {
		t.Errorf("%v", m)
	}
	c := s.Core()
	if !c.Ended(0) || c.Calls(0) != 2 {
		t.Errorf("the core")
	}
	how, fault := s.End(7)
	if how != 0 || fault != 0 || s.Memory(-1) != nil || s.Memory(2) != nil {
		t.Errorf("no such rank")
	}
}

// TestEnds: P20.2, P20.4: how a rank ends, and goes on.
func TestEnds(t *testing.T) {
	for s, want := range map[string][3]uint8{
		"stop;": {api.EdDone, 0, 1}, "assert 0;": {api.EdFailed, 0, 1}, "assert 1 / 0;": {api.EdFault, api.FtDiv, 1}, "assert row[0];": {api.EdFault, api.FtIndex, 1}, "barrier(1);": {api.EdFault, api.FtCall, 1}, "send(0, 5, 0, 0, 1);": {api.EdFault, api.FtCall, 2}, "int x; x = 1 + 2 + 3;": {api.EdDone, 0, 3},
		"barrier(0); barrier(9);": {api.EdFault, api.FtCall, 2}, "wait(0);": {api.EdFault, api.FtCall, 1},
	} {
		state := made(t, s, api.Config{Ranks: 1, Steps: 3})
		for range int(want[2]) {
			if how, fault := state.End(0); how != 0 || fault != 0 {
				t.Errorf("%s: %d %d", s, how, fault)
			}
			pick(t, state, goes(0))
		}
		if how, fault := state.End(0); how != want[0] || fault != want[1] || !state.Terminal() || state.Core().Ended(0) != true {
			t.Errorf("%s: %d %d", s, how, fault)
		}
	}
	loop := made(t, "while 1 { }", api.Config{Ranks: 1, Steps: 3})
	for range 50 {
		pick(t, loop, goes(0))
	}
	if how, _ := loop.End(0); how != api.EdRuns || loop.Done() != 50 {
		t.Errorf("it goes on: %d", how)
	}
}

// TestSame: P20.5, and states of nobody.
func TestSame(t *testing.T) {
	text := "int x; recv(0, any, 0); x = value; recv(0, any, 0); x = 0; send(0, 0, 0, 0, 1);"
	cfg := api.Config{Ranks: 2, Steps: 50, Eager: 1}
	s := made(t, text, cfg)
	pick(t, s, goes(0))
	for i, change := range []func() *State{
		func() *State { c := s.Copy(); pick(t, c, goes(1)); return c }, func() *State { return made(t, text, cfg) }, func() *State {
			c, _ := New(s.program, api.Config{Ranks: 2, Steps: 51, Eager: 1})
			pick(t, c, goes(0))
			return c
		},
		func() *State { c := made(t, text+"stop;", cfg); pick(t, c, goes(0)); return c }, func() *State { return nil }, func() *State { return &State{} },
	} {
		if other := change(); Same(s, other) || Same(other, s) || !Same(s, s.Copy()) {
			t.Errorf("change %d", i)
		}
	}
	if s.Done() != 1 || len(s.Enabled()) != 1 {
		t.Errorf("a copy's change is seen")
	}
	a, b := made(t, text, cfg), made(t, text, cfg)
	pick(t, a, goes(0), goes(1))
	pick(t, b, goes(1), goes(0))
	if !Same(a, b) || !Same(nil, nil) {
		t.Errorf("either order")
	}
	for _, s := range []*State{nil, {}} {
		how, fault := s.End(0)
		if len(s.Enabled()) != 0 || s.Do(goes(0)) != api.ErrNil || !s.Terminal() || s.Forced(goes(0)) || s.Signature() != nil || s.Done() != 0 || how != 0 || fault != 0 || s.Memory(0) != nil || s.Core() != nil || s.Copy() != nil {
			t.Errorf("nobody's")
		}
	}
}

// config tells one of several configurations.
func config(d *sample.Dice, ranks int) api.Config {
	return api.Config{Ranks: ranks, Steps: 200, Eager: d.Throw(3), Loose: d.Throw(2) == 0, Polls: d.Throw(3)}
}

// own tells whether a pick is of another one's own rank's going on, receive or call.
func own(p, q api.Pick) bool {
	if p.Kind == api.PkGo || q.Kind == api.PkGo {
		return p.Kind == q.Kind && p.Rank == q.Rank
	}
	return p.Rank == q.Rank && p.Call == q.Call
}

// fresh tells what is enabled, asked anew.
func fresh(s *State) []api.Pick {
	c := s.Copy()
	c.ask()
	return c.Enabled()
}

// TestMany: P20.3, P20.6, P20.7 of random ways.
func TestMany(t *testing.T) {
	orders := 0
	for seed := range 400 {
		d := sample.Seeded(seed)
		ranks := 2 + d.Throw(3)
		s := made(t, sample.Talk(seed, ranks, 6), config(d, ranks))
		for !s.Terminal() {
			l := s.Enabled()
			if !slices.Equal(l, fresh(s)) {
				t.Fatalf("%d: %v, not %v", seed, l, fresh(s))
			}
			p, q := l[d.Throw(len(l))], l[d.Throw(len(l))]
			if !own(p, q) {
				orders++
				a, b := s.Copy(), s.Copy()
				pick(t, a, p, q)
				pick(t, b, q, p)
				if !Same(a, b) || !slices.Equal(a.Signature(), b.Signature()) || !slices.Equal(a.Enabled(), b.Enabled()) || a.Done() != b.Done() {
					t.Fatalf("%d: %v and %v", seed, p, q)
				}
			}
			decided, forced := len(s.Signature()), s.Forced(p)
			pick(t, s, p)
			if now := len(s.Signature()); forced && now != decided || !forced && now != decided+1 {
				t.Fatalf("%d: %v", seed, s.Signature())
			}
			for _, x := range l {
				if !own(x, p) && !slices.Contains(s.Enabled(), x) {
					t.Fatalf("%d: %v is lost by %v", seed, x, p)
				}
			}
		}
		again(t, d, seed, s)
	}
	if orders < 1000 {
		t.Errorf("%d orders only", orders)
	}
}

// again: P20.8: goes by a terminal state's signature alone, in another order.
func again(t *testing.T, d *sample.Dice, seed int, end *State) {
	sign := end.Signature()
	s, _ := New(end.program, end.cfg)
	for {
		var l []api.Pick
		for _, p := range s.Enabled() {
			if s.Forced(p) || slices.Contains(sign, api.Choice{Rank: p.Rank, Call: p.Call, From: p.From, Seq: p.Seq, Value: p.Value}) {
				l = append(l, p)
			}
		}
		if len(l) == 0 {
			break
		}
		pick(t, s, l[d.Throw(len(l))])
	}
	if !Same(s, end) || s.Done() != end.Done() || !reflect.DeepEqual(s.Signature(), sign) {
		t.Fatalf("%d: %v, but %v", seed, sign, s.Signature())
	}
}
