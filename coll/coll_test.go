package coll

import (
	"reflect"
	"slices"
	"testing"

	"dispatcher/api"
	"dispatcher/group"
	"dispatcher/sample"
)

func world(n int) group.Group {
	g, _ := group.World(n)
	return g
}

func bring(t *testing.T, c *Coll, g group.Group, rank int, p Part, k int) {
	t.Helper()
	if n, e := c.Bring(g, rank, p); n != k || e != api.OK {
		t.Fatalf("%v: %d %d", p, n, e)
	}
}

// overs tells for whom the k-th call is over, rank by rank.
func overs(c *Coll, key string, n, k int) (s string) {
	for rank := range n {
		if c.Over(key, rank, k) {
			s += "+"
		} else {
			s += "-"
		}
	}
	return s
}

// TestMay: P15.1.
func TestMay(t *testing.T) {
	g := group.Group{Key: "x", Ranks: []int{4, 2, 7}}
	for _, x := range []struct {
		p  Part
		ok bool
	}{
		{Part{}, false}, {Part{Kind: api.CkIprobe}, false}, {Part{Kind: api.CkFree}, false}, {Part{Kind: api.CkBarrier}, true}, {Part{Kind: api.CkBarrier, Root: 1}, false}, {Part{Kind: api.CkBarrier, Op: 1}, false}, {Part{Kind: api.CkBcast, Root: 2, Value: 9}, true}, {Part{Kind: api.CkBcast, Root: 3}, false}, {Part{Kind: api.CkBcast, Root: -1}, false},
		{Part{Kind: api.CkBcast, Op: 1}, false}, {Part{Kind: api.CkReduce, Root: 2, Op: 2}, true}, {Part{Kind: api.CkReduce, Op: 3}, false}, {Part{Kind: api.CkReduce, Root: 3}, false}, {Part{Kind: api.CkAllreduce, Op: 1}, true}, {Part{Kind: api.CkAllreduce, Root: 1}, false}, {Part{Kind: api.CkGather, Root: 1}, true}, {Part{Kind: api.CkGather, Op: 1}, false},
		{Part{Kind: api.CkDup}, true}, {Part{Kind: api.CkDup, Root: 1}, false}, {Part{Kind: api.CkSplit, Color: -5, Key: -9, Value: 3}, true}, {Part{Kind: api.CkSplit, Root: 2}, false},
	} {
		if May(g, x.p) != x.ok || May(group.Group{}, x.p) {
			t.Errorf("%v", x.p)
		}
	}
	for _, ranks := range [][]int{{53, 53}, {-1}, {api.MaxRanks}, {3, 1, 3}, make([]int, api.MaxRanks+1)} {
		last := len(ranks) - 1
		g := group.Group{Key: "x", Ranks: ranks}
		for _, x := range []struct {
			p  Part
			ok bool
		}{
			{Part{Kind: api.CkBarrier}, true}, {Part{Kind: api.CkSplit, Color: -1}, true}, {Part{Kind: api.CkAllreduce, Op: api.RdMin}, true}, {Part{Kind: api.CkBcast, Root: last}, true}, {Part{Kind: api.CkReduce, Root: last, Op: api.RdMax}, true},
			{Part{Kind: api.CkGather, Root: last + 1}, false}, {Part{Kind: api.CkBcast, Root: -1}, false}, {Part{Kind: api.CkDup, Root: last + 1}, false}, {Part{Kind: api.CkBarrier, Op: api.RdMax}, false}, {Part{Kind: api.CkFree}, false}, {Part{}, false},
		} {
			if May(g, x.p) != x.ok {
				t.Errorf("%v may not be, but that isn't asked of %v", ranks, x.p)
			}
			c := New(false)
			if k, e := c.Bring(g, ranks[0], x.p); k != 0 || e != api.ErrArg || c.Many("x", ranks[0]) != 0 {
				t.Errorf("%v may not be: %d %d", ranks, k, e)
			}
		}
	}
	a := Part{Kind: api.CkReduce, Root: 1, Op: 1, Value: 5}
	for _, b := range []Part{{Kind: api.CkBcast, Root: 1, Op: 1}, {Kind: api.CkReduce, Root: 2, Op: 1}, {Kind: api.CkReduce, Root: 1}} {
		if Fit(a, b) || Fit(b, a) {
			t.Errorf("%v", b)
		}
	}
	if !Fit(a, Part{Kind: api.CkReduce, Root: 1, Op: 1, Color: 7, Key: 8}) {
		t.Errorf("they fit")
	}
}

// TestBring: P15.2.
func TestBring(t *testing.T) {
	c := New(false)
	g := group.Group{Key: "x", Ranks: []int{4, 2}}
	for _, x := range []struct {
		g    group.Group
		rank int
		p    Part
	}{{g, 3, Part{Kind: api.CkBarrier}}, {group.Group{Key: "x"}, 4, Part{Kind: api.CkBarrier}}, {g, 4, Part{Kind: api.CkSend}}, {group.Group{Key: "x", Ranks: []int{4, 4}}, 4, Part{Kind: api.CkBarrier}}} {
		if n, e := c.Bring(x.g, x.rank, x.p); n != 0 || e != api.ErrArg {
			t.Errorf("%v: %d %d", x, n, e)
		}
	}
	bring(t, c, g, 4, Part{Kind: api.CkBarrier}, 0)
	g.Ranks[0] = 5
	for _, other := range []group.Group{g, {Key: "x", Ranks: []int{2, 4}}, {Key: "x", Ranks: []int{4}}} {
		if _, e := c.Bring(other, 2, Part{Kind: api.CkBarrier}); e != api.ErrArg {
			t.Errorf("%v: %d", other, e)
		}
	}
	g.Ranks[0] = 4
	bring(t, c, g, 4, Part{Kind: api.CkBarrier}, 1)
	bring(t, c, g, 2, Part{Kind: api.CkBarrier}, 0)
	bring(t, c, world(5), 4, Part{Kind: api.CkBarrier}, 0)
	if c.Many("x", 4) != 2 || c.Many("x", 2) != 1 || c.Many("x", 3) != 0 || c.Many("y", 4) != 0 || c.Many("", 4) != 1 || c.Many("", 3) != 0 {
		t.Errorf("many")
	}
	if !c.Over("x", 4, 0) || !c.Over("x", 2, 0) || c.Over("x", 4, 1) || c.Over("x", 2, 1) || c.Over("x", 4, 2) || c.Over("x", 4, -1) || c.Over("y", 4, 0) || c.Over("x", 5, 0) {
		t.Errorf("over")
	}
}

// TestTold: P15.3.
func TestTold(t *testing.T) {
	g := group.Group{Key: "x", Ranks: []int{4, 2, 7}}
	values := []int64{5, -9, 7}
	for _, x := range []struct {
		p    Part
		want [3]Told
	}{
		{Part{Kind: api.CkBarrier}, [3]Told{}}, {Part{Kind: api.CkBcast, Root: 1}, [3]Told{{Value: -9}, {Value: -9}, {Value: -9}}}, {Part{Kind: api.CkReduce, Root: 2}, [3]Told{2: {Value: 3}}}, {Part{Kind: api.CkReduce, Root: 0, Op: api.RdMax}, [3]Told{{Value: 7}}},
		{Part{Kind: api.CkAllreduce, Op: api.RdMin}, [3]Told{{Value: -9}, {Value: -9}, {Value: -9}}}, {Part{Kind: api.CkGather, Root: 1}, [3]Told{1: {Row: values}}}, {Part{Kind: api.CkDup}, [3]Told{{Group: group.Group{Key: "x.0", Ranks: []int{4, 2, 7}}, Has: true}, {Group: group.Group{Key: "x.0", Ranks: []int{4, 2, 7}}, Has: true}, {Group: group.Group{Key: "x.0", Ranks: []int{4, 2, 7}}, Has: true}}},
	} {
		c := New(false)
		for i, rank := range g.Ranks {
			if told, ok := c.Told("x", g.Ranks[0], 0); ok || !reflect.DeepEqual(told, Told{}) {
				t.Errorf("%v: %v", x.p, told)
			}
			p := x.p
			p.Value = values[i]
			bring(t, c, g, rank, p, 0)
		}
		for i, rank := range g.Ranks {
			for range 2 {
				told, ok := c.Told("x", rank, 0)
				if !ok || !reflect.DeepEqual(told, x.want[i]) {
					t.Errorf("%v: %d is told %v", x.p, rank, told)
				}
				if len(told.Row) > 0 {
					told.Row[0] = 99
				}
				if told.Has {
					told.Group.Ranks[0] = 99
				}
			}
		}
	}
	c := New(true)
	for i, rank := range g.Ranks {
		bring(t, c, g, rank, Part{Kind: api.CkSplit, Color: []int{3, -1, 3}[i], Key: []int{0, 0, -1}[i]}, 0)
	}
	three := Told{Group: group.Group{Key: "x.0:3", Ranks: []int{7, 4}}, Has: true}
	for i, want := range []Told{three, {}, three} {
		if told, ok := c.Told("x", g.Ranks[i], 0); !ok || !reflect.DeepEqual(told, want) {
			t.Errorf("%d: %v", i, told)
		}
	}
	big := New(false)
	for rank := range 2 {
		bring(t, big, world(2), rank, Part{Kind: api.CkAllreduce, Value: 1<<63 - 1}, 0)
	}
	if told, _ := big.Told("", 0, 0); told.Value != -2 {
		t.Errorf("sums wrap: %v", told)
	}
}

// TestLoose: P15.3, P15.4, P15.7: the chapter's example, and others.
func TestLoose(t *testing.T) {
	for _, x := range []struct {
		loose bool
		parts []Part
		want  []string
		odd   int
	}{
		{false, []Part{{Kind: api.CkReduce, Root: 1}, {Kind: api.CkReduce, Root: 1}, {Kind: api.CkReduce, Root: 1}}, []string{"---", "---", "+++"}, 0},
		{true, []Part{{Kind: api.CkReduce, Root: 1}, {Kind: api.CkReduce, Root: 1}, {Kind: api.CkReduce, Root: 1}}, []string{"+--", "+--", "+++"}, 0},
		{false, []Part{{Kind: api.CkReduce, Root: 1}, {Kind: api.CkReduce, Root: 1}, {Kind: api.CkBarrier}}, []string{"---", "---", "---"}, 1},
		{true, []Part{{Kind: api.CkReduce, Root: 1}, {Kind: api.CkReduce, Root: 1}, {Kind: api.CkBarrier}}, []string{"+--", "+--", "+--"}, 1},
		{true, []Part{{Kind: api.CkGather, Root: 0}, {Kind: api.CkGather, Root: 1}, {Kind: api.CkGather, Root: 0}}, []string{"---", "---", "--+"}, 1},
		{true, []Part{{Kind: api.CkBcast, Root: 1}, {Kind: api.CkBcast, Root: 1}, {Kind: api.CkBarrier}}, []string{"---", "++-", "++-"}, 1},
		{true, []Part{{Kind: api.CkBcast, Root: 2}, {Kind: api.CkBcast, Root: 1}, {Kind: api.CkBcast, Root: 1}}, []string{"---", "-+-", "-++"}, 1},
		{false, []Part{{Kind: api.CkBcast, Root: 0}, {Kind: api.CkBcast, Root: 0}, {Kind: api.CkBcast, Root: 0}}, []string{"---", "---", "+++"}, 0},
		{true, []Part{{Kind: api.CkBarrier}, {Kind: api.CkBarrier}, {Kind: api.CkDup}}, []string{"---", "---", "---"}, 1},
		{true, []Part{{Kind: api.CkAllreduce}, {Kind: api.CkAllreduce}, {Kind: api.CkAllreduce, Op: 1}}, []string{"---", "---", "---"}, 1},
	} {
		c := New(x.loose)
		for rank, p := range x.parts {
			p.Value = int64(rank + 5)
			bring(t, c, world(3), rank, p, 0)
			if s := overs(c, "", 3, 0); s != x.want[rank] {
				t.Errorf("%v: %s, not %s", x.parts, s, x.want[rank])
			}
			told, ok := c.Told("", 0, 0)
			if p := x.parts[0]; ok && p.Kind == api.CkReduce && !reflect.DeepEqual(told, Told{}) || ok && p.Kind == api.CkBcast && told.Value != int64(p.Root+5) {
				t.Errorf("%v: %v", p, told)
			}
		}
		if l := c.Odd(); len(l) != x.odd || x.odd > 0 && l[0] != ".0" {
			t.Errorf("%v: %v", x.parts, l)
		}
	}
	c := New(true)
	bring(t, c, world(2), 0, Part{Kind: api.CkBcast, Root: 0, Value: 8}, 0)
	if told, ok := c.Told("", 0, 0); !ok || told.Value != 8 {
		t.Errorf("%v", told)
	}
	bring(t, c, world(2), 0, Part{Kind: api.CkBcast, Root: 1, Value: 8}, 1)
	if told, ok := c.Told("", 0, 1); ok || told.Value != 0 {
		t.Errorf("%v", told)
	}
}

// TestOdd: P15.4: their order; P15.5; calls of nobody.
func TestOdd(t *testing.T) {
	c := New(false)
	for _, key := range []string{"b", "", "a.0", "a"} {
		g := world(2)
		g.Key = key
		for k := range 12 {
			bring(t, c, g, 0, Part{Kind: api.CkBarrier}, k)
			if k%5 == 1 {
				bring(t, c, g, 1, Part{Kind: api.CkDup}, k)
			} else {
				bring(t, c, g, 1, Part{Kind: api.CkBarrier}, k)
			}
		}
	}
	want := []string{".1", ".6", ".11", "a.1", "a.6", "a.11", "a.0.1", "a.0.6", "a.0.11", "b.1", "b.6", "b.11"}
	if l := c.Odd(); !slices.Equal(l, want) {
		t.Errorf("%v", l)
	}
	other := c.Copy()
	bring(t, c, world(2), 0, Part{Kind: api.CkBarrier}, 12)
	bring(t, other, world(2), 1, Part{Kind: api.CkDup}, 12)
	if other.Many("", 0) != 12 || c.Many("", 1) != 12 || !slices.Equal(other.Odd(), want) {
		t.Errorf("a copy is changed")
	}
	bring(t, c, world(2), 1, Part{Kind: api.CkBarrier}, 12)
	if !c.Over("", 0, 12) || other.Over("", 1, 12) {
		t.Errorf("a copy is changed")
	}
	if loose := New(true).Copy(); loose == nil || !loose.loose {
		t.Errorf("a loose copy")
	}
	for _, c := range []*Coll{nil, {}} {
		n, e := c.Bring(world(1), 0, Part{Kind: api.CkBarrier})
		told, ok := c.Told("", 0, 0)
		if n != 0 || e != api.ErrNil || ok || !reflect.DeepEqual(told, Told{}) || c.Many("", 0) != 0 || c.Over("", 0, 0) || c.Odd() != nil || c.Copy() != nil {
			t.Errorf("nobody's")
		}
	}
}

// TestMany: P15.6, P15.7, P15.8: parts in two orders.
func TestMany(t *testing.T) {
	for seed := range 500 {
		d := sample.Seeded(seed)
		n := 1 + d.Throw(4)
		parts := make([][]Part, n)
		plan := make([]Part, 3)
		for k := range plan {
			plan[k] = Part{Kind: api.CkBarrier + uint8(d.Throw(7))}
			if rooted(plan[k].Kind) {
				plan[k].Root = d.Throw(n)
			}
		}
		for rank := range parts {
			for _, p := range plan {
				if d.Throw(8) == 0 {
					p = Part{Kind: api.CkBcast, Root: d.Throw(n)}
				}
				p.Value, p.Color, p.Key = int64(d.Throw(9)), d.Throw(3)-1, d.Throw(2)
				parts[rank] = append(parts[rank], p)
			}
		}
		loose := seed%2 == 0
		a, b := New(loose), New(loose)
		inOrder(t, d, a, parts)
		inOrder(t, d, b, parts)
		for rank := range n {
			for k := range plan {
				x, ok := a.Told("", rank, k)
				y, ok2 := b.Told("", rank, k)
				if ok != ok2 || !reflect.DeepEqual(x, y) || a.Over("", rank, k) != ok {
					t.Fatalf("%d: %v %v", seed, x, y)
				}
			}
		}
		if !slices.Equal(a.Odd(), b.Odd()) {
			t.Fatalf("%d: %v %v", seed, a.Odd(), b.Odd())
		}
	}
}

// inOrder brings parts in some order, and asks whether what is over stays so, and is over for all or none.
func inOrder(t *testing.T, d *sample.Dice, c *Coll, parts [][]Part) {
	n := len(parts)
	was := map[[2]int]Told{}
	for left := 3 * n; left > 0; {
		rank := d.Throw(n)
		k := c.Many("", rank)
		if k == 3 {
			continue
		}
		bring(t, c, world(n), rank, parts[rank][k], k)
		left--
		for k := range 3 {
			count := 0
			for rank := range n {
				told, ok := c.Told("", rank, k)
				if old, had := was[[2]int{rank, k}]; had && (!ok || !reflect.DeepEqual(old, told)) {
					t.Fatalf("%v, and then %v", old, told)
				}
				if ok {
					was[[2]int{rank, k}] = told
					count++
				}
			}
			strict := true
			for _, l := range parts {
				strict = strict && !rooted(l[k].Kind)
			}
			if (strict || !c.loose) && count > 0 && count < n {
				t.Fatalf("over for %d of %d", count, n)
			}
		}
	}
}
