package request

import (
	"reflect"
	"slices"
	"testing"

	"dispatcher/api"
	"dispatcher/sample"
)

// TestAdd: P12.1, P12.2.
func TestAdd(t *testing.T) {
	table := New()
	if i, e := table.Add(true, false); i != 0 || e != api.OK {
		t.Errorf("%d %d", i, e)
	}
	if i, e := table.Add(false, true); i != 1 || e != api.OK {
		t.Errorf("%d %d", i, e)
	}
	if l := table.Which([]int{0, 1}); !reflect.DeepEqual(l, []int{1}) {
		t.Errorf("%v", l)
	}
	if e := table.Complete(1, 7, 3, 5); e != api.ErrArg {
		t.Errorf("%d", e)
	}
	for _, i := range []int{-1, 2, 1 << 40} {
		r, e := table.At(i)
		if table.Complete(i, 7, 3, 5) != api.ErrReq || e != api.ErrReq || r != (Request{}) {
			t.Errorf("%d: %v %d", i, r, e)
		}
	}
	if e := table.Complete(0, 7, 3, 5); e != api.OK {
		t.Errorf("%d", e)
	}
	if r, e := table.At(0); r != (Request{Recv: true, Done: true, Value: 7, Peer: 3, Tag: 5}) || e != api.OK {
		t.Errorf("%v %d", r, e)
	}
	if e := table.Complete(0, 7, 3, 5); e != api.ErrArg {
		t.Errorf("%d", e)
	}
	if l, e := table.Take([]int{0}); e != api.OK || !reflect.DeepEqual(l, []Request{{Recv: true, Done: true, Value: 7, Peer: 3, Tag: 5}}) {
		t.Errorf("%v %d", l, e)
	}
	if r, e := table.At(0); r != (Request{Recv: true, Done: true, Gone: true, Value: 7, Peer: 3, Tag: 5}) || e != api.OK {
		t.Errorf("%v %d", r, e)
	}
	if e := table.Complete(0, 7, 3, 5); e != api.ErrReq {
		t.Errorf("%d", e)
	}
	if r, e := table.At(1); r != (Request{Done: true}) || e != api.OK {
		t.Errorf("%v %d", r, e)
	}
	for i := 2; i < api.MaxReqs; i++ {
		if n, e := table.Add(false, false); n != i || e != api.OK {
			t.Errorf("%d %d", n, e)
		}
	}
	if n, e := table.Add(false, false); n != 0 || e != api.ErrFull || table.Many() != 256 {
		t.Errorf("%d %d", n, e)
	}
}

// TestRows: P12.3, P12.4.
func TestRows(t *testing.T) {
	table := New()
	for i := range 12 {
		table.Add(i%2 == 0, i%3 == 0)
	}
	table.Take([]int{3})
	for _, x := range []struct {
		l []int
		e api.Errno
	}{{nil, api.ErrReq}, {[]int{}, api.ErrReq}, {[]int{0}, 0}, {[]int{3}, api.ErrReq}, {[]int{12}, api.ErrReq}, {[]int{-1}, api.ErrReq}, {[]int{0, 1, 0}, api.ErrReq}, {[]int{11, 10, 9, 8, 7, 6, 5, 4}, 0}, {[]int{0, 1, 2, 4, 5, 6, 7, 8, 9}, api.ErrReq}} {
		if e := table.May(x.l); e != x.e {
			t.Errorf("%v: %d", x.l, e)
		}
		if l, e := table.Take(x.l); x.e != api.OK && (e != x.e || l != nil) {
			t.Errorf("%v: %v %d", x.l, l, e)
		}
		table = table.Copy()
	}
	table = New()
	for i := range 7 {
		table.Add(i%2 == 0, i%3 == 0)
	}
	if l := table.Which([]int{6, 5, 0, -1, 9, 3, 3, 0, 1, 2, 4}); !reflect.DeepEqual(l, []int{0, 2, 5, 6, 7}) {
		t.Errorf("%v", l)
	}
	if l, e := table.Take([]int{0, 1}); l != nil || e != api.ErrReq || len(table.Left()) != 7 {
		t.Errorf("%v %d", l, e)
	}
	table.Complete(1, 8, 9, 10)
	row := []int{1, 6, 0}
	l, e := table.Take(row)
	if e != api.OK || !reflect.DeepEqual(l, []Request{{Done: true, Value: 8, Peer: 9, Tag: 10}, {Recv: true, Done: true}, {Recv: true, Done: true}}) || !reflect.DeepEqual(row, []int{1, 6, 0}) {
		t.Errorf("%v %d", l, e)
	}
	if l := table.Left(); !reflect.DeepEqual(l, []int{2, 3, 4, 5}) || table.Many() != 7 {
		t.Errorf("%v", l)
	}
	if l := table.Which([]int{0, 3, 1}); !reflect.DeepEqual(l, []int{1}) || len(table.Which(nil)) != 0 {
		t.Errorf("%v", l)
	}
}

// TestCopy: P12.5, and tables of nobody.
func TestCopy(t *testing.T) {
	table := New()
	table.Add(true, false)
	c := table.Copy()
	table.Complete(0, 1, 2, 3)
	table.Add(false, false)
	if r, _ := c.At(0); r != (Request{Recv: true}) || c.Many() != 1 {
		t.Errorf("%v", r)
	}
	c.Add(true, true)
	if r, _ := table.At(1); r != (Request{}) {
		t.Errorf("%v", r)
	}
	for _, table := range []*Table{nil, {}} {
		i, e := table.Add(true, true)
		r, e2 := table.At(0)
		l, e3 := table.Take([]int{0})
		if i != 0 || e != api.ErrNil || r != (Request{}) || e2 != api.ErrNil || l != nil || e3 != api.ErrNil || table.Complete(0, 0, 0, 0) != api.ErrNil || table.May([]int{0}) != api.ErrNil {
			t.Errorf("nobody's: errors")
		}
		if table.Which([]int{0}) != nil || table.Left() != nil || table.Many() != 0 || table.Copy() != nil {
			t.Errorf("nobody's")
		}
	}
	if empty := New(); empty.Copy() == nil || empty.Left() != nil {
		t.Errorf("an empty one")
	}
}

// TestMany: P12.6, P12.7, P12.8.
func TestMany(t *testing.T) {
	for seed := range 300 {
		d := sample.Seeded(seed)
		table := New()
		with := map[int]Request{}
		taken := map[int]int{}
		row := []int{d.Throw(6), d.Throw(6) + 6, d.Throw(6) + 12}
		var which []int
		for range 60 {
			rowTaken := false
			switch d.Throw(3) {
			case 0:
				recv, done := d.Throw(2) == 0, d.Throw(2) == 0
				if i, e := table.Add(recv, done); e == api.OK {
					with[i] = Request{Recv: recv, Done: done}
				}
			case 1:
				i, x := d.Throw(20), Request{Done: true, Value: int64(d.Throw(9)), Peer: d.Throw(9), Tag: d.Throw(9)}
				was := with[i]
				if table.Complete(i, x.Value, x.Peer, x.Tag) == api.OK {
					if x.Recv = was.Recv; was.Done || taken[i] > 0 {
						t.Fatalf("%d: completed twice", i)
					}
					with[i] = x
				}
			default:
				l := []int{d.Throw(20), d.Throw(20)}
				got, e := table.Take(l)
				for n, r := range got {
					rowTaken = rowTaken || slices.Contains(row, l[n])
					if taken[l[n]]++; e != api.OK || taken[l[n]] > 1 || !r.Done || r != with[l[n]] {
						t.Fatalf("%v: %v %d", l, got, e)
					}
				}
			}
			now := table.Which(row)
			for _, place := range which {
				if !rowTaken && !slices.Contains(now, place) {
					t.Fatalf("%v, and then %v", which, now)
				}
			}
			which = now
			if len(table.Left()) != len(with)-len(taken) || slices.ContainsFunc(table.Left(), func(i int) bool { return taken[i] > 0 }) {
				t.Fatalf("%v of %v, taken %v", table.Left(), with, taken)
			}
		}
	}
}
