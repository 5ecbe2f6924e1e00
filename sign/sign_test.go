package sign

import (
	"reflect"
	"slices"
	"testing"

	"dispatcher/api"
	"dispatcher/sample"
)

func choice(rank, call, value, from, seq int) api.Choice {
	return api.Choice{Rank: rank, Call: call, From: from, Seq: seq, Value: value}
}

// TestMay: P23.1.
func TestMay(t *testing.T) {
	a, b := choice(0, 2, 0, 1, 0), choice(1, 0, -1, 0, 0)
	for _, x := range []struct {
		l  []api.Choice
		ok bool
	}{
		{nil, true}, {[]api.Choice{a}, true}, {[]api.Choice{a, b}, true}, {[]api.Choice{b, a}, false}, {[]api.Choice{a, a}, false}, {[]api.Choice{a, choice(0, 2, 1, 0, 0)}, false}, {[]api.Choice{a, choice(0, 3, 1, 0, 0)}, true}, {[]api.Choice{a, choice(0, 1, 1, 0, 0)}, false}, {[]api.Choice{a, choice(1, 1, 0, 0, 0)}, true},
		{[]api.Choice{choice(63, 1<<40, 7, 63, 1<<40)}, true}, {[]api.Choice{choice(64, 0, 0, 0, 0)}, false}, {[]api.Choice{choice(-1, 0, 0, 0, 0)}, false}, {[]api.Choice{choice(0, -1, 0, 0, 0)}, false}, {[]api.Choice{choice(0, 1<<40+1, 0, 0, 0)}, false}, {[]api.Choice{choice(0, 0, -2, 0, 0)}, false}, {[]api.Choice{choice(0, 0, 8, 0, 0)}, false},
		{[]api.Choice{choice(0, 0, 0, 64, 0)}, false}, {[]api.Choice{choice(0, 0, 0, -1, 0)}, false}, {[]api.Choice{choice(0, 0, 0, 0, -1)}, false}, {[]api.Choice{choice(0, 0, 0, 0, 1<<40+1)}, false},
	} {
		s, e := Text(x.l)
		if May(x.l) != x.ok || (e == api.OK) != x.ok || (s == "") == x.ok || e != api.OK && e != api.ErrArg {
			t.Errorf("%v: %q %d", x.l, s, e)
		}
	}
	l := []api.Choice{a, b, choice(0, 2, 5, 5, 5)}
	if c, ok := At(l, 0, 2); c != a || !ok {
		t.Errorf("%v", c)
	}
	for _, x := range [][2]int{{0, 0}, {1, 2}, {-1, 2}} {
		if c, ok := At(l, x[0], x[1]); ok || c != (api.Choice{}) {
			t.Errorf("%v", c)
		}
	}
}

// TestPut: P23.2, P23.3.
func TestPut(t *testing.T) {
	a, b, c := choice(0, 2, 0, 1, 0), choice(1, 0, -1, 0, 0), choice(1, 5, 0, 2, 3)
	l := make([]api.Choice, 2, 9)
	l[0], l[1] = a, c
	p, e := Put(l, b)
	if e != api.OK || !slices.Equal(p, []api.Choice{a, b, c}) || !slices.Equal(l[:3], []api.Choice{a, c, {}}) {
		t.Errorf("%v %d", p, e)
	}
	for _, x := range []struct {
		l []api.Choice
		c api.Choice
	}{{l, a}, {l, choice(0, 2, 1, 1, 1)}, {l, choice(-1, 0, 0, 0, 0)}, {[]api.Choice{c, a}, b}} {
		if p, e := Put(x.l, x.c); p != nil || e != api.ErrArg {
			t.Errorf("%v: %v %d", x, p, e)
		}
	}
	bad := []api.Choice{c, a}
	other := choice(1, 5, 0, 2, 4)
	for _, x := range []struct {
		a, b                 []api.Choice
		agree, within, ahead bool
		join                 []api.Choice
	}{
		{nil, nil, true, true, false, []api.Choice{}}, {nil, []api.Choice{a}, true, true, true, []api.Choice{a}}, {[]api.Choice{a}, nil, true, false, false, []api.Choice{a}}, {[]api.Choice{a, c}, []api.Choice{b, c}, true, false, true, []api.Choice{a, b, c}}, {[]api.Choice{b, c}, []api.Choice{a, b, c}, true, true, false, []api.Choice{a, b, c}},
		{[]api.Choice{a, c}, []api.Choice{a, other}, false, false, true, nil}, {[]api.Choice{a, other}, []api.Choice{a, c}, false, false, false, nil}, {bad, []api.Choice{a}, false, false, false, nil}, {[]api.Choice{a}, bad, false, false, false, nil}, {nil, bad, false, false, false, nil},
		{[]api.Choice{choice(0, 2, 1, 0, 0)}, []api.Choice{choice(0, 2, 0, 1, 0)}, false, false, false, nil}, {[]api.Choice{choice(0, 2, 0, 1, 9)}, []api.Choice{choice(0, 2, 0, 2, 0)}, false, false, true, nil}, {[]api.Choice{choice(0, 2, 0, 1, 8)}, []api.Choice{choice(0, 2, 0, 1, 9)}, false, false, true, nil},
	} {
		if Agree(x.a, x.b) != x.agree || Within(x.a, x.b) != x.within || Ahead(x.a, x.b) != x.ahead {
			t.Errorf("%v and %v: %v %v %v", x.a, x.b, Agree(x.a, x.b), Within(x.a, x.b), Ahead(x.a, x.b))
		}
		j, e := Join(x.a, x.b)
		if (e == api.OK) != (x.join != nil) || !slices.Equal(j, x.join) || e != api.OK && (e != api.ErrArg || j != nil) {
			t.Errorf("%v and %v: %v %d", x.a, x.b, j, e)
		}
	}
}

// TestText: P23.4.
func TestText(t *testing.T) {
	for s, l := range map[string][]api.Choice{"-": nil, "0.2.0.1.0 1.0.-1.0.0": {choice(0, 2, 0, 1, 0), choice(1, 0, -1, 0, 0)}, "63.1099511627776.7.63.1099511627776": {choice(63, 1<<40, 7, 63, 1<<40)}} {
		if got, e := Text(l); got != s || e != api.OK {
			t.Errorf("%s: %s %d", s, got, e)
		}
		if got, e := Parse(s); !slices.Equal(got, l) || e != api.OK {
			t.Errorf("%s: %v %d", s, got, e)
		}
	}
	for _, s := range []string{"", " ", "- ", "--", "0.2.0.1", "0.2.0.1.0.0", "0.2.0.1.0 ", " 0.2.0.1.0", "0.2.0.1.0  1.0.-1.0.0", "00.2.0.1.0", "0.2.0.1.00", "0.2.-0.1.0", "0.2.-2.1.0", "0.2.8.1.0", "-1.2.0.1.0", "64.2.0.1.0", "0.2.0.1.x", "0.2..1.0", "0.2.0.1.0 0.2.0.1.0", "1.0.0.0.0 0.0.0.0.0", "0.99999999999999999999.0.0.0", "0.1099511627777.0.0.0", "0.2.0.1.0 -", "0.2.+0.1.0", "0.2.--1.1.0", "0.2.1-.1.0", "0,2,0,1,0", "0.2.0.1.\u0660", "0.2.0.1.0\n"} {
		if l, e := Parse(s); l != nil || e != api.ErrPath {
			t.Errorf("%q: %v %d", s, l, e)
		}
	}
}

func some(d *sample.Dice) []api.Choice {
	var l []api.Choice
	for rank := range 2 {
		for call := range 3 {
			if d.Throw(2) == 0 {
				l = append(l, choice(rank, call, d.Throw(3)-1, d.Throw(2), d.Throw(2)*d.Throw(2)))
			}
		}
	}
	return l
}

// TestMany: P23.5, P23.6, P23.7.
func TestMany(t *testing.T) {
	d := sample.Seeded(7)
	joined := 0
	for range 20000 {
		a, b, c := some(d), some(d), some(d)
		s, _ := Text(a)
		back, e := Parse(s)
		if e != api.OK || !slices.Equal(back, a) {
			t.Fatalf("%s: %v", s, back)
		}
		if Ahead(a, b) == Ahead(b, a) && !slices.Equal(a, b) || Ahead(a, b) && Ahead(b, c) && !Ahead(a, c) || Ahead(a, a) {
			t.Fatalf("%v %v %v", a, b, c)
		}
		j, e := Join(a, b)
		k, e2 := Join(b, a)
		if !reflect.DeepEqual(j, k) || e != e2 || (e == api.OK) != Agree(a, b) || Agree(a, b) != Agree(b, a) {
			t.Fatalf("%v %v: %v %v", a, b, j, k)
		}
		if e != api.OK {
			continue
		}
		joined++
		if !May(j) || !Within(a, j) || !Within(b, j) || Within(a, c) && Within(b, c) && !Within(j, c) {
			t.Fatalf("%v %v: %v", a, b, j)
		}
		if more, e := Join(j, c); e == api.OK && !Within(j, more) {
			t.Fatalf("%v %v: %v", j, c, more)
		}
	}
	if joined < 500 {
		t.Errorf("%d joined only", joined)
	}
}
