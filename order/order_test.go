package order

import (
	"reflect"
	"slices"
	"testing"

	"dispatcher/api"
	"dispatcher/clock"
	"dispatcher/sample"
)

func made(t *testing.T, n int, l []Event) *Order {
	t.Helper()
	o, e := Of(n, l)
	if e != api.OK {
		t.Fatalf("%v: %d", l, e)
	}
	return o
}

// TestOf: P19.1, P19.2: the chapter's example, and wrong ones.
func TestOf(t *testing.T) {
	l := []Event{{Rank: 0}, {Rank: 1}, {Rank: 1, After: []int{0}}}
	o := made(t, 2, l)
	l[2].After[0] = 1
	for i, want := range []clock.Clock{{1, 0}, {0, 1}, {1, 2}} {
		for range 2 {
			c, e := o.Clock(i)
			d, e2 := o.Depth(i)
			if e != api.OK || e2 != api.OK || !slices.Equal(c, want) || d != []int{1, 1, 2}[i] {
				t.Errorf("%d: %v %d %d", i, c, d, e)
			}
			c[0] = 99
		}
	}
	if o.Many() != 3 || o.Ahead(0, 1) || o.Ahead(1, 0) || !o.Ahead(0, 2) || !o.Ahead(1, 2) || o.Ahead(2, 2) || !reflect.DeepEqual(o.Past(2), []int{0, 1}) || len(o.Past(0)) != 0 {
		t.Errorf("ahead")
	}
	if row := o.First([]int{1}); !slices.Equal(row, []int{1, 0, 2}) {
		t.Errorf("%v", row)
	}
	for _, i := range []int{-1, 3, 1 << 40} {
		c, e := o.Clock(i)
		d, e2 := o.Depth(i)
		if e != api.ErrArg || e2 != api.ErrArg || c != nil || d != 0 || o.Ahead(i, 0) || o.Ahead(0, i) || len(o.Past(i)) != 0 {
			t.Errorf("%d: %d %d", i, e, e2)
		}
	}
	for _, x := range []struct {
		n int
		l []Event
	}{{0, nil}, {65, nil}, {-1, nil}, {2, []Event{{Rank: 2}}}, {2, []Event{{Rank: -1}}}, {2, []Event{{After: []int{0}}}}, {2, []Event{{}, {After: []int{1}}}}, {2, []Event{{}, {After: []int{-1}}}}, {1, make([]Event, 2001)}} {
		if o, e := Of(x.n, x.l); o != nil || e != api.ErrArg {
			t.Errorf("%v: %d", x, e)
		}
	}
	if o := made(t, 1, make([]Event, 2000)); o.Many() != 2000 || len(o.Past(1999)) != 1999 || len(o.First(nil)) != 2000 {
		t.Errorf("2000 events")
	}
}

// TestNone: P19.1, P19.4: orders of none.
func TestNone(t *testing.T) {
	for _, o := range []*Order{nil, {}, made(t, 1, nil)} {
		c, e := o.Clock(0)
		d, e2 := o.Depth(0)
		if o.Many() != 0 || c != nil || d != 0 || e != api.ErrArg || e2 != api.ErrArg || o.Ahead(0, 0) || len(o.Past(0)) != 0 || !o.Is(nil) || !o.Is([]int{}) || o.Is([]int{0}) || len(o.First([]int{0, 1})) != 0 {
			t.Errorf("none")
		}
	}
}

// TestIs: P19.4.
func TestIs(t *testing.T) {
	o := made(t, 3, []Event{{Rank: 0}, {Rank: 1, After: []int{0, 0}}, {Rank: 2}, {Rank: 2, After: []int{0}}})
	for _, x := range []struct {
		row  []int
		want bool
	}{{[]int{0, 1, 2, 3}, true}, {[]int{2, 0, 3, 1}, true}, {[]int{1, 0, 2, 3}, false}, {[]int{0, 1, 3, 2}, false}, {[]int{0, 1, 2}, false}, {[]int{0, 1, 2, 2}, false}, {[]int{0, 1, 2, 4}, false}, {[]int{0, 1, 2, -1}, false}, {[]int{2, 3, 0, 1}, false}, {[]int{0, 1, 2, 3, 3}, false}, {nil, false}} {
		if o.Is(x.row) != x.want {
			t.Errorf("%v", x.row)
		}
	}
	for _, x := range []struct{ want, row []int }{{nil, []int{0, 1, 2, 3}}, {[]int{3, 2, 1}, []int{2, 0, 3, 1}}, {[]int{9, -1, 2, 2, 3}, []int{2, 0, 3, 1}}, {[]int{1, 3, 2, 1}, []int{2, 0, 1, 3}}} {
		if row := o.First(x.want); !slices.Equal(row, x.row) {
			t.Errorf("%v: %v", x.want, row)
		}
	}
}

// plain tells what happened ahead by the chapter's words alone.
func plain(l []Event) [][]bool {
	ahead := make([][]bool, len(l))
	for k, e := range l {
		ahead[k] = make([]bool, len(l))
		direct := slices.Clone(e.After)
		for i := k - 1; i >= 0; i-- {
			if l[i].Rank == e.Rank {
				direct = append(direct, i)
				break
			}
		}
		for _, i := range direct {
			ahead[k][i] = true
			for x := range l {
				ahead[k][x] = ahead[k][x] || ahead[i][x]
			}
		}
	}
	return ahead
}

// TestMany: P19.2 to P19.7 of random histories.
func TestMany(t *testing.T) {
	for seed := range 150 {
		d := sample.Seeded(seed)
		n := 1 + d.Throw(4)
		var l []Event
		for i := range d.Throw(14) {
			e := Event{Rank: d.Throw(n)}
			for range d.Throw(3) {
				if i > 0 {
					e.After = append(e.After, d.Throw(i))
				}
			}
			l = append(l, e)
		}
		o := made(t, n, l)
		ahead := plain(l)
		for k := range l {
			ck, _ := o.Clock(k)
			dk, _ := o.Depth(k)
			count, deepest := make(clock.Clock, n), 0
			var past []int
			for i := range l {
				ci, _ := o.Clock(i)
				di, _ := o.Depth(i)
				told, _ := ci.Of(ck)
				if ahead[k][i] {
					past = append(past, i)
					count[l[i].Rank]++
					deepest = max(deepest, di)
				}
				if o.Ahead(i, k) != ahead[k][i] || (told == clock.Ahead) != ahead[k][i] || ahead[k][i] && (i >= k || di >= dk) || i != k && told == clock.Same {
					t.Fatalf("%d: %d and %d of %v", seed, i, k, l)
				}
			}
			count[l[k].Rank]++
			if !slices.Equal(count, ck) || dk != deepest+1 || !slices.Equal(past, o.Past(k)) {
				t.Fatalf("%d: %d of %v: %v %d", seed, k, l, ck, dk)
			}
		}
		rows(t, d, o)
	}
}

// rows asks of orders: First's, and those with two changed that stand side by side.
func rows(t *testing.T, d *sample.Dice, o *Order) {
	plain := make([]int, o.Many())
	for i := range plain {
		plain[i] = i
	}
	want := make([]int, d.Throw(5))
	for i := range want {
		want[i] = d.Throw(16) - 1
	}
	row := o.First(want)
	if !o.Is(plain) || !o.Is(row) {
		t.Fatalf("%v", row)
	}
	for i := 1; i < len(row); i++ {
		a, b := row[i-1], row[i]
		row[i-1], row[i] = b, a
		if o.Is(row) == o.Ahead(a, b) {
			t.Fatalf("%v: %d and %d", row, a, b)
		}
		row[i-1], row[i] = a, b
	}
	var done []int
	for len(done) < o.Many() {
		first := -1
		ready := func(i int) bool {
			return !slices.Contains(done, i) && !slices.ContainsFunc(o.Past(i), func(k int) bool { return !slices.Contains(done, k) })
		}
		for _, i := range append(slices.Clone(want), plain...) {
			if i >= 0 && i < o.Many() && ready(i) {
				first = i
				break
			}
		}
		done = append(done, first)
	}
	if !slices.Equal(done, row) {
		t.Fatalf("%v: %v, not %v", want, row, done)
	}
}
