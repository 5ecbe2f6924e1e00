package clock

import (
	"slices"
	"testing"

	"dispatcher/api"
	"dispatcher/sample"
)

// TestNew: P18.1.
func TestNew(t *testing.T) {
	for n := -1; n <= 66; n++ {
		c, e := New(n)
		if ok := n >= 1 && n <= 64; ok != (e == api.OK) || ok != May(c) || e != api.OK && (e != api.ErrArg || c != nil) || ok && (len(c) != n || slices.Max(c) != 0) {
			t.Errorf("%d: %v %d", n, c, e)
		}
	}
	for _, x := range []struct {
		c  Clock
		ok bool
	}{{nil, false}, {Clock{}, false}, {Clock{0}, true}, {Clock{1 << 40}, true}, {Clock{1<<40 + 1}, false}, {Clock{0, -1}, false}, {make(Clock, 65), false}} {
		if May(x.c) != x.ok {
			t.Errorf("%v", x.c)
		}
	}
}

// TestTick: P18.2.
func TestTick(t *testing.T) {
	c := Clock{1, 2, 1 << 40}
	if d, e := c.Tick(1); e != api.OK || !slices.Equal(d, Clock{1, 3, 1 << 40}) || c[1] != 2 {
		t.Errorf("%v %d", d, e)
	}
	for _, rank := range []int{-1, 2, 3, 1 << 40} {
		if d, e := c.Tick(rank); d != nil || e != api.ErrArg {
			t.Errorf("%d: %v %d", rank, d, e)
		}
	}
	for _, c := range []Clock{nil, {-1}, {1<<40 + 1}} {
		if d, e := c.Tick(0); d != nil || e != api.ErrArg {
			t.Errorf("%v: %v %d", c, d, e)
		}
	}
	a, b := Clock{1, 2, 0}, Clock{0, 3, 0}
	if d, e := a.Merge(b); e != api.OK || !slices.Equal(d, Clock{1, 3, 0}) {
		t.Errorf("%v %d", d, e)
	}
	d, _ := a.Merge(a)
	if d[0] = 9; a[0] != 1 {
		t.Errorf("memory is shared")
	}
	for _, x := range [][2]Clock{{{1}, {1, 2}}, {nil, nil}, {{-1}, {1}}, {{1}, {-1}}, {{1}, {1 << 41}}} {
		d, e := x[0].Merge(x[1])
		o, e2 := x[0].Of(x[1])
		l, e3 := x[0].Late(x[1], 0)
		if d != nil || e != api.ErrArg || o != 0 || e2 != api.ErrArg || l || e3 != api.ErrArg {
			t.Errorf("%v: %d %d %d", x, e, e2, e3)
		}
	}
}

// TestOf: P18.3, P18.4.
func TestOf(t *testing.T) {
	for _, x := range []struct {
		a, b Clock
		want uint8
	}{{Clock{1, 2, 0}, Clock{1, 3, 0}, Ahead}, {Clock{1, 2, 0}, Clock{0, 3, 0}, Beside}, {Clock{1, 2, 0}, Clock{1, 2, 0}, Same}, {Clock{1, 3, 1}, Clock{1, 2, 0}, Behind}, {Clock{1, 2, 0}, Clock{1, 1, 5}, Beside}, {Clock{0}, Clock{1}, Ahead}, {Clock{2, 1, 1}, Clock{1, 1, 2}, Beside}} {
		if o, e := x.a.Of(x.b); o != x.want || e != api.OK {
			t.Errorf("%v: %d %d", x, o, e)
		}
	}
	a, done := Clock{0, 3, 0}, Clock{1, 2, 0}
	for rank, want := range []bool{true, false, false} {
		if l, e := a.Late(done, rank); l != want || e != api.OK {
			t.Errorf("%d: %v %d", rank, l, e)
		}
	}
	for _, rank := range []int{-1, 3} {
		if l, e := a.Late(done, rank); l || e != api.ErrArg {
			t.Errorf("%d: %v %d", rank, l, e)
		}
	}
	if a.Sum() != 3 || (Clock{1 << 40, 5}).Sum() != 1<<40+5 || Clock(nil).Sum() != 0 || (Clock{3, -1}).Sum() != 0 {
		t.Errorf("sums")
	}
}

// TestMany: P18.5, P18.6, P18.7.
func TestMany(t *testing.T) {
	d := sample.Seeded(1)
	some := func() Clock { return Clock{d.Throw(3), d.Throw(3), d.Throw(3)} }
	of := func(a, b Clock) uint8 {
		o, e := a.Of(b)
		if e != api.OK {
			t.Fatal(e)
		}
		return o
	}
	for range 20000 {
		a, b, c := some(), some(), some()
		o := of(a, b)
		if of(a, a) != Same || (o == Ahead) != (of(b, a) == Behind) || o == Ahead && a.Sum() >= b.Sum() || o == Ahead && of(b, c) == Ahead && of(a, c) != Ahead || (o == Same) != slices.Equal(a, b) {
			t.Fatalf("%v %v %v", a, b, c)
		}
		m, _ := a.Merge(b)
		n, _ := b.Merge(a)
		x, _ := m.Merge(c)
		bc, _ := b.Merge(c)
		y, _ := a.Merge(bc)
		if !slices.Equal(m, n) || !slices.Equal(x, y) || of(m, a) == Ahead || of(m, b) == Ahead || of(m, a) == Beside {
			t.Fatalf("%v %v: %v", a, b, m)
		}
		if above := of(c, a) == Same || of(c, a) == Behind; above && (of(c, b) == Same || of(c, b) == Behind) && of(m, c) != Ahead && of(m, c) != Same {
			t.Fatalf("%v %v: %v isn't the least", a, b, m)
		}
		i, k := d.Throw(3), d.Throw(3)
		ti, _ := a.Tick(i)
		tk, _ := a.Tick(k)
		ik, _ := ti.Tick(k)
		ki, _ := tk.Tick(i)
		if of(a, ti) != Ahead || !slices.Equal(ik, ki) {
			t.Fatalf("%v %d %d", a, i, k)
		}
	}
}
