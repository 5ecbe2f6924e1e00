package path

import (
	"slices"
	"strings"
	"testing"

	"dispatcher/api"
	"dispatcher/choice"
	"dispatcher/sample"
)

// point tells one of so many values.
func point(rank, call, values int) choice.Point {
	p := choice.Point{Rank: rank, Call: call}
	for i := range values {
		p.Values = append(p.Values, api.Choice{Rank: rank, Call: call, From: i})
	}
	return p
}

func push(t *testing.T, s *Stack, p choice.Point, off bool) {
	t.Helper()
	if e := s.Push(p, off); e != api.OK {
		t.Fatalf("%v: %d", p, e)
	}
}

// TestPush: P24.1.
func TestPush(t *testing.T) {
	s := New()
	if s.Depth() != 0 || s.Left() != 0 || len(s.Steps()) != 0 {
		t.Errorf("a new one has no levels")
	}
	for _, p := range []choice.Point{{}, {Values: []api.Choice{{Rank: 1}}}, {Values: []api.Choice{{Call: 1}}}, {Values: []api.Choice{{From: 1}, {From: 2}, {From: 1}}}} {
		if e := s.Push(p, true); e != api.ErrArg || s.Depth() != 0 {
			t.Errorf("%v: %d", p, e)
		}
	}
	p := point(0, 0, 2)
	for range MaxLevels {
		push(t, s, p, true)
	}
	if e := s.Push(p, true); e != api.ErrFull {
		t.Errorf("%d", e)
	}
	if e := s.Push(choice.Point{}, true); e != api.ErrArg || s.Depth() != MaxLevels || s.Left() != 2*MaxLevels {
		t.Errorf("%d", e)
	}
	p.Values[0].From = 9
	if s.Steps()[0].Choice.From != 0 {
		t.Errorf("memory is shared")
	}
	for _, s := range []*Stack{nil, {}} {
		if s.Push(p, true) != api.ErrNil || s.Depth() != 0 || s.Left() != 0 || s.Next() || s.Steps() != nil || s.Copy() != nil {
			t.Errorf("nobody's")
		}
	}
}

// TestNext: P24.2, P24.3, P24.4: texts tell where it stands.
func TestNext(t *testing.T) {
	s := New()
	push(t, s, point(0, 1, 2), true)
	push(t, s, point(2, 3, 1), false)
	push(t, s, point(4, 5, 1), true)
	for i, want := range []struct {
		text  string
		depth int
		left  int
	}{{"0.1.0.0.0 2.3.0.0.0 4.5.0.0.0", 3, 3}, {"0.1.0.0.0 2.3.0.0.0 off.4.5", 3, 2}, {"0.1.0.1.0", 1, 1}, {"off.0.1", 1, 0}} {
		if i > 0 && !s.Next() {
			t.Fatalf("%d: no levels", i)
		}
		if text := Text(s.Steps()); text != want.text || s.Depth() != want.depth || s.Left() != want.left {
			t.Errorf("%d: %s %d %d", i, text, s.Depth(), s.Left())
		}
	}
	last := s.Steps()[0]
	if last != (Step{Off: true, Rank: 0, Call: 1}) {
		t.Errorf("%v", last)
	}
	if s.Next() || s.Depth() != 0 || s.Next() || Text(s.Steps()) != "-" {
		t.Errorf("at the end")
	}
	push(t, s, point(0, 0, 1), false)
	if l := s.Steps(); !slices.Equal(l, []Step{{Choice: api.Choice{}}}) {
		t.Errorf("%v", l)
	}
	if s.Next() {
		t.Errorf("one step alone")
	}
}

// TestText: P24.4.
func TestText(t *testing.T) {
	l := []Step{{Off: true, Rank: 3, Call: -4}, {Rank: 1, Call: 2, Choice: api.Choice{Rank: 1, Call: 2, Value: -1, From: 5, Seq: 6}}, {Off: true, Rank: 3, Choice: api.Choice{From: 4}}}
	if s := Text(l); s != "off.3.-4 1.2.-1.5.6 off.3.0" {
		t.Errorf("%s", s)
	}
	if Text(nil) != "-" || Text([]Step{}) != "-" {
		t.Errorf("of none")
	}
	s := New()
	push(t, s, point(0, 1, 2), true)
	c := s.Copy()
	s.Next()
	push(t, s, point(0, 2, 2), true)
	if Text(c.Steps()) != "0.1.0.0.0" || c.Left() != 2 || c.Depth() != 1 {
		t.Errorf("a copy is changed")
	}
	c.Next()
	push(t, c, point(7, 7, 1), true)
	if Text(s.Steps()) != "0.1.0.1.0 0.2.0.0.0" || Text(c.Steps()) != "0.1.0.1.0 7.7.0.0.0" {
		t.Errorf("a copy is changed")
	}
}

// tree is a node: a leaf has no sons.
type node struct {
	point choice.Point
	off   bool
	sons  []*node
}

func grow(d *sample.Dice, deep int) *node {
	n := &node{}
	if deep == 0 || d.Throw(4) == 0 {
		return n
	}
	n.point, n.off = point(d.Throw(3), deep, 1+d.Throw(3)), d.Throw(2) == 0
	for range n.point.Values {
		n.sons = append(n.sons, grow(d, deep-1))
	}
	if n.off {
		n.sons = append(n.sons, grow(d, deep-1))
	}
	return n
}

// leaves tells the texts of the ways to all leaves, in order.
func (n *node) leaves(ahead string) []string {
	if len(n.sons) == 0 {
		return []string{ahead}
	}
	var l []string
	for i, son := range n.sons {
		step := Step{Off: true, Rank: n.point.Rank, Call: n.point.Call}
		if i < len(n.point.Values) {
			step = Step{Rank: n.point.Rank, Call: n.point.Call, Choice: n.point.Values[i]}
		}
		l = append(l, son.leaves(strings.TrimPrefix(ahead+" "+Text([]Step{step}), " "))...)
	}
	return l
}

// TestMany: P24.5, P24.6, P24.7: a tree's leaves are come to, each once, in order.
func TestMany(t *testing.T) {
	for seed := range 300 {
		root := grow(sample.Seeded(seed), 4)
		want := root.leaves("")
		var got []string
		s := New()
		for {
			at := root
			for _, step := range s.Steps() {
				i := len(at.point.Values)
				if !step.Off {
					i = slices.Index(at.point.Values, step.Choice)
				}
				at = at.sons[i]
			}
			for len(at.sons) > 0 {
				push(t, s, at.point, at.off)
				at = at.sons[0]
			}
			text := Text(s.Steps())
			if s.Depth() == 0 {
				text = ""
			}
			got = append(got, text)
			left, depth := s.Left(), s.Depth()
			if !s.Next() {
				break
			}
			if s.Left() != left-1 && s.Depth() >= depth {
				t.Fatalf("%d: %d, and then %d", seed, left, s.Left())
			}
		}
		if !slices.Equal(got, want) {
			t.Fatalf("%d: %v, not %v", seed, got, want)
		}
	}
}
