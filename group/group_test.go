package group

import (
	"reflect"
	"slices"
	"strings"
	"testing"

	"dispatcher/api"
	"dispatcher/sample"
)

func world(n int) Group {
	g, _ := World(n)
	return g
}

// TestWorld: P11.1.
func TestWorld(t *testing.T) {
	for _, n := range []int{0, -1, 65, 1 << 40} {
		if g, e := World(n); e != api.ErrArg || !reflect.DeepEqual(g, Group{}) {
			t.Errorf("%d: %v %d", n, g, e)
		}
	}
	for _, n := range []int{1, 3, 64} {
		g, e := World(n)
		if e != api.OK || g.Key != "" || len(g.Ranks) != n || g.Ranks[n-1] != n-1 || !slices.IsSorted(g.Ranks) || !May(g) {
			t.Errorf("%d: %v %d", n, g, e)
		}
	}
	for _, x := range []struct {
		g  Group
		ok bool
	}{{Group{}, false}, {Group{"x", []int{63, 0}}, true}, {Group{"", []int{64}}, false}, {Group{"", []int{-1}}, false}, {Group{"", []int{1, 2, 1}}, false}, {Group{"?", make([]int, 65)}, false}} {
		if May(x.g) != x.ok {
			t.Errorf("%v", x.g)
		}
	}
	a := Group{"k", []int{2, 1}}
	for _, b := range []Group{{"k", []int{1, 2}}, {"", []int{2, 1}}, {"k", []int{2}}, {}} {
		if Same(a, b) || Same(b, a) {
			t.Errorf("%v", b)
		}
	}
	if !Same(a, Group{"k", []int{2, 1}}) || !Same(Group{}, Group{Ranks: []int{}}) {
		t.Errorf("the same")
	}
}

// TestNumber: P11.2, P11.6.
func TestNumber(t *testing.T) {
	g := Group{"k", []int{5, 2, 7}}
	for rank, want := range map[int]int{5: 0, 2: 1, 7: 2} {
		n, ok := Number(g, rank)
		r, ok2 := Rank(g, want)
		if n != want || !ok || r != rank || !ok2 {
			t.Errorf("%d: %d %v %d %v", rank, n, ok, r, ok2)
		}
	}
	for _, x := range []int{-1, 3, 1 << 40} {
		n, ok := Number(g, x)
		r, ok2 := Rank(g, x)
		if n != 0 || ok || r != 0 || ok2 {
			t.Errorf("%d: %d %v %d %v", x, n, ok, r, ok2)
		}
	}
}

// TestDup: P11.3.
func TestDup(t *testing.T) {
	g := Group{"k", []int{5, 2}}
	d, e := Dup(g, 12)
	if e != api.OK || !Same(d, Group{"k.12", []int{5, 2}}) {
		t.Errorf("%v %d", d, e)
	}
	d.Ranks[0] = 9
	if g.Ranks[0] != 5 {
		t.Errorf("memory is shared")
	}
	for _, x := range []struct {
		g Group
		k int
	}{{g, -1}, {Group{}, 0}} {
		d, e := Dup(x.g, x.k)
		if l, e2 := Split(x.g, x.k, make([]Ask, len(x.g.Ranks))); e != api.ErrArg || e2 != api.ErrArg || l != nil || !reflect.DeepEqual(d, Group{}) {
			t.Errorf("%v: %d %d", x, e, e2)
		}
	}
}

// TestSplit: P11.3.
func TestSplit(t *testing.T) {
	l, e := Split(world(4), 0, []Ask{{1, 5}, {0, 0}, {1, 2}, {-1, 0}})
	if e != api.OK || !reflect.DeepEqual(l, []Group{{".0:0", []int{1}}, {".0:1", []int{2, 0}}}) {
		t.Errorf("%v %d", l, e)
	}
	l, e = Split(Group{"x", []int{7, 3, 5}}, 11, []Ask{{1 << 40, 0}, {3, 1}, {1 << 40, -9}})
	if e != api.OK || !reflect.DeepEqual(l, []Group{{"x.11:3", []int{3}}, {"x.11:1099511627776", []int{5, 7}}}) {
		t.Errorf("%v %d", l, e)
	}
	if l, e := Split(world(2), 0, []Ask{{-1, 0}, {-5, 0}}); len(l) != 0 || e != api.OK {
		t.Errorf("%v %d", l, e)
	}
	for _, n := range []int{0, 1, 3} {
		if l, e := Split(world(2), 0, make([]Ask, n)); l != nil || e != api.ErrArg {
			t.Errorf("%d asks: %v %d", n, l, e)
		}
	}
}

// TestTable: P11.4, P11.5.
func TestTable(t *testing.T) {
	if table, e := New(Group{}); table != nil || e != api.ErrArg {
		t.Errorf("%d", e)
	}
	g := Group{"x", []int{3, 1}}
	table, e := New(g)
	g.Ranks[0] = 9
	first, e2 := table.At(0)
	if e != api.OK || e2 != api.OK || !Same(first, Group{"x", []int{3, 1}}) || table.Many() != 1 {
		t.Errorf("%v %d %d", first, e, e2)
	}
	first.Ranks[0] = 9
	if again, _ := table.At(0); again.Ranks[0] != 3 {
		t.Errorf("memory is shared")
	}
	if n, e := table.Add(Group{}); n != 0 || e != api.ErrArg {
		t.Errorf("%d %d", n, e)
	}
	for i := 1; i < api.MaxComms; i++ {
		if n, e := table.Add(world(i)); n != i || e != api.OK {
			t.Errorf("%d: %d %d", i, n, e)
		}
	}
	c := table.Copy()
	if table.Free(5) != api.OK || table.Free(5) != api.ErrComm || table.Free(-1) != api.ErrComm || table.Free(32) != api.ErrComm || table.Free(0) != api.OK {
		t.Errorf("free")
	}
	if n, e := table.Add(world(2)); n != 0 || e != api.ErrFull || table.Many() != 32 {
		t.Errorf("%d %d", n, e)
	}
	if n, e := table.Add(Group{}); n != 0 || e != api.ErrArg {
		t.Errorf("%d %d", n, e)
	}
	for _, i := range []int{0, 5, -1, 32} {
		if g, e := table.At(i); e != api.ErrComm || !reflect.DeepEqual(g, Group{}) {
			t.Errorf("%d: %v %d", i, g, e)
		}
	}
	for i := 1; i < 32; i++ {
		g, e := c.At(i)
		if e != api.OK || !Same(g, world(i)) {
			t.Errorf("the copy's %d: %v %d", i, g, e)
		}
		if g, e := table.At(i); i != 5 && (e != api.OK || !Same(g, world(i))) {
			t.Errorf("%d: %v %d", i, g, e)
		}
	}
	for _, table := range []*Table{nil, {}} {
		n, e := table.Add(world(1))
		g, e2 := table.At(0)
		if n != 0 || e != api.ErrNil || e2 != api.ErrNil || !reflect.DeepEqual(g, Group{}) || table.Free(0) != api.ErrNil || table.Many() != 0 || table.Copy() != nil {
			t.Errorf("nobody's")
		}
	}
}

// TestMany: P11.7, P11.8, P11.9.
func TestMany(t *testing.T) {
	for seed := range 300 {
		d := sample.Seeded(seed)
		g := Group{"x", nil}
		for r := range 10 {
			if d.Throw(3) > 0 {
				g.Ranks = append(g.Ranks, (r*7+seed)%64)
			}
		}
		if len(g.Ranks) == 0 {
			continue
		}
		asks := make([]Ask, len(g.Ranks))
		for i := range asks {
			asks[i] = Ask{d.Throw(4) - 1, d.Throw(3)}
		}
		l, e := Split(g, 3, asks)
		keys := map[string]int{g.Key: 1}
		where := map[int]int{}
		for _, part := range l {
			if !May(part) || keys[part.Key] > 0 || !strings.HasPrefix(part.Key, "x.3:") {
				t.Fatalf("%v", l)
			}
			keys[part.Key]++
			for _, r := range part.Ranks {
				where[r]++
			}
		}
		for i, r := range g.Ranks {
			if want := 0; e != api.OK || where[r] != 1 && asks[i].Color >= 0 || where[r] != want && asks[i].Color < 0 {
				t.Fatalf("%v of %v: %v", l, g, asks)
			}
		}
		for i := range asks {
			asks[i] = Ask{7, -2}
		}
		if one, _ := Split(g, 4, asks); len(one) != 1 || !slices.Equal(one[0].Ranks, g.Ranks) || keys[one[0].Key] > 0 {
			t.Fatalf("%v", one)
		}
		for k := range 12 {
			dup, _ := Dup(g, k)
			if keys[dup.Key] > 0 || !slices.Equal(dup.Ranks, g.Ranks) {
				t.Fatalf("%v", dup)
			}
			keys[dup.Key]++
		}
		handles(t, d)
	}
}

// handles adds and frees, and holds what is told against a map.
func handles(t *testing.T, d *sample.Dice) {
	table, _ := New(world(2))
	is := map[int]Group{0: world(2)}
	for range 40 {
		if d.Throw(2) == 0 {
			g := Group{d.One("a", "b", ".0"), []int{d.Throw(64)}}
			if n, e := table.Add(g); e == api.OK {
				is[n] = g
			}
		} else {
			n := d.Throw(table.Many())
			table.Free(n)
			delete(is, n)
		}
		for i := range table.Many() {
			g, e := table.At(i)
			want, ok := is[i]
			if ok != (e == api.OK) || ok && !Same(g, want) {
				t.Fatalf("%d: %v %d", i, g, e)
			}
		}
	}
}
