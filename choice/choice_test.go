package choice

import (
	"reflect"
	"slices"
	"testing"

	"dispatcher/api"
	"dispatcher/fence"
	"dispatcher/front"
	"dispatcher/inter"
	"dispatcher/sample"
	"dispatcher/tree"
)

// made tells the fence behind the first state.
func made(t *testing.T, s string, cfg api.Config) *inter.State {
	t.Helper()
	p, w := front.Compile([]byte(s))
	state, e := inter.New(p, cfg)
	if w != (tree.Wrong{}) || e != api.OK {
		t.Fatalf("%q: %v %d", s, w, e)
	}
	if _, e := fence.To(state, 1000); e != api.OK {
		t.Fatalf("%q: %d", s, e)
	}
	return state
}

// TestPoints: P22.1, P22.2, P22.3: the chapter's example, and more.
func TestPoints(t *testing.T) {
	s := made(t, "if rank { bsend(0, 0, 0, 7, 1); } if rank != 1 { irecv(0, any, 0); iprobe(0, any, any); }", api.Config{Ranks: 3, Steps: 50, Polls: 1})
	one, two := api.Choice{From: 1}, api.Choice{From: 2}
	no := api.Choice{Rank: 0, Call: 1, Value: -1}
	other := api.Choice{Rank: 2, Call: 2, Value: -1}
	want := []Point{{Rank: 0, Call: 0, Values: []api.Choice{one, two}}, {Rank: 0, Call: 1, Values: []api.Choice{no}}, {Rank: 2, Call: 2, Values: []api.Choice{other}}}
	for range 2 {
		l := Points(s)
		if !reflect.DeepEqual(l, want) {
			t.Fatalf("%v", l)
		}
		l[0].Values[0].From = 9
	}
	for _, x := range []struct {
		out     []api.Choice
		next    Point
		ok      bool
		alone   bool
		blocked bool
	}{
		{nil, want[0], true, false, false}, {[]api.Choice{one}, Point{Values: []api.Choice{two}}, true, false, false}, {[]api.Choice{two, one}, want[1], true, false, false}, {[]api.Choice{two, no, one}, want[2], true, true, false}, {[]api.Choice{other, no, two}, Point{Values: []api.Choice{one}}, true, true, false},
		{[]api.Choice{two, no, one, other}, Point{}, false, false, true}, {[]api.Choice{{From: 3}, {Rank: 1, From: 1}, {Call: 1, From: 1}, {From: 1, Seq: 1}, {From: 1, Value: 1}}, want[0], true, false, false},
	} {
		out := slices.Clone(x.out)
		next, ok := Next(s, x.out)
		if !reflect.DeepEqual(next, x.next) || ok != x.ok || Alone(s, x.out) != x.alone || Blocked(s, x.out) != x.blocked || !slices.Equal(out, x.out) {
			t.Errorf("%v: %v %v %v %v", x.out, next, ok, Alone(s, x.out), Blocked(s, x.out))
		}
	}
	if !Has(want[0], two) || Has(want[0], no) || Has(Point{}, one) {
		t.Errorf("has")
	}
	if p, ok := Pick(s, two); !ok || p != (api.Pick{Kind: api.PkMatch, From: 2}) {
		t.Errorf("%v", p)
	}
	if p, ok := Pick(s, no); !ok || p != (api.Pick{Kind: api.PkAnswer, Call: 1, Value: -1}) {
		t.Errorf("%v", p)
	}
	for _, c := range []api.Choice{{From: 3}, {Rank: 1}, {Rank: 9, From: 1}, {From: 1, Value: 1}} {
		if p, ok := Pick(s, c); ok || p != (api.Pick{}) || Take(s, c) != api.ErrPick {
			t.Errorf("%v: %v", c, p)
		}
	}
	if e := Take(s, two); e != api.OK || !slices.Equal(s.Signature(), []api.Choice{two}) || Take(s, one) != api.ErrPick {
		t.Errorf("%d %v", e, s.Signature())
	}
}

// TestForced: P22.1, P22.3: what is forced is no value.
func TestForced(t *testing.T) {
	p, _ := front.Compile([]byte("if rank { bsend(0, 0, 0, 7, 1); } else { recv(0, 1, 0); recv(0, any, 0); }"))
	s, _ := inter.New(p, api.Config{Ranks: 2, Steps: 50})
	if len(Points(s)) != 0 || Blocked(s, nil) || Alone(s, nil) {
		t.Errorf("%v", Points(s))
	}
	if _, ok := Pick(s, api.Choice{}); ok || Take(s, api.Choice{}) != api.ErrPick {
		t.Errorf("a PkGo is no choice")
	}
	s.Do(api.Pick{Kind: api.PkGo, Rank: 0})
	s.Do(api.Pick{Kind: api.PkGo, Rank: 1})
	if _, ok := Pick(s, api.Choice{From: 1}); ok || len(Points(s)) != 0 {
		t.Errorf("a match of one rank is no choice")
	}
	for _, s := range []*inter.State{nil, {}} {
		next, ok := Next(s, nil)
		_, ok2 := Pick(s, api.Choice{})
		if Points(s) != nil || ok || next.Values != nil || Alone(s, nil) || Blocked(s, nil) || ok2 || Take(s, api.Choice{}) != api.ErrNil {
			t.Errorf("nobody's")
		}
	}
}

// TestMany: P22.4, P22.5, P22.6.
func TestMany(t *testing.T) {
	points := 0
	for seed := range 300 {
		d := sample.Seeded(seed)
		ranks := 2 + d.Throw(3)
		s := made(t, sample.Talk(seed, ranks, 6), api.Config{Ranks: ranks, Steps: 99, Eager: d.Throw(2), Polls: d.Throw(3)})
		was := map[[2]int]Point{}
		for {
			l := Points(s)
			var all, out []api.Choice
			for _, p := range l {
				if next, ok := Next(s, out); !ok || !reflect.DeepEqual(next, p) {
					t.Fatalf("%d: %v, not %v", seed, next, p)
				}
				for _, c := range p.Values {
					if c.Rank != p.Rank || c.Call != p.Call || !Has(p, c) {
						t.Fatalf("%d: %v", seed, p)
					}
				}
				all, out = append(all, p.Values...), append(out, p.Values...)
				points = max(points, len(l))
			}
			decided := 0
			for _, p := range s.Enabled() {
				if !s.Forced(p) {
					if !slices.Contains(all, chosen(p)) {
						t.Fatalf("%d: %v", seed, p)
					}
					decided++
				}
			}
			_, ok := Next(s, nil)
			if decided != len(all) || ok != (len(l) > 0) || Alone(s, nil) != (len(l) == 1) || Blocked(s, all) != (len(l) > 0) {
				t.Fatalf("%d: %v", seed, l)
			}
			is := map[[2]int]Point{}
			for _, p := range l {
				is[[2]int{p.Rank, p.Call}] = p
			}
			for at, p := range was {
				for _, c := range p.Values {
					if !Has(is[at], c) {
						t.Fatalf("%d: %v is lost", seed, c)
					}
				}
			}
			if len(all) == 0 {
				break
			}
			c := all[d.Throw(len(all))]
			if e := Take(s, c); e != api.OK {
				t.Fatal(e)
			}
			was = is
			delete(was, [2]int{c.Rank, c.Call})
			fence.To(s, 1000)
		}
	}
	if points < 3 {
		t.Errorf("%d points only", points)
	}
}
