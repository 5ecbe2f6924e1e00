package front

import (
	"reflect"
	"strings"
	"testing"

	"dispatcher/api"
	"dispatcher/bound"
	"dispatcher/code"
	"dispatcher/sample"
	"dispatcher/scan"
	"dispatcher/tree"
	"dispatcher/vm"
	"dispatcher/walk"
)

// TestWrong: P10.1 to P10.4: what is wrong; P10.7.
func TestWrong(t *testing.T) {
	for s, want := range map[string]tree.Wrong{
		"": {}, "int x; x = 1;": {}, "x = 1;": {Err: 40, Line: 1, Column: 1}, "x = ;": {Err: 20, Line: 1, Column: 5}, "x = $;": {Err: 10, Line: 1, Column: 5}, "x = 1": {Err: 20}, "x = ; $": {Err: 10, Line: 1, Column: 7}, "x = 1; y = ;": {Err: 20, Line: 1, Column: 12}, "int x;\nint x; }": {Err: 20, Line: 2, Column: 8},
		strings.Repeat(" ", api.MaxText+1): {Err: api.ErrLong}, "assert " + strings.Repeat("-", 40) + "1;": {Err: api.ErrFull}, "int a[999];\nint b[2];": {Err: api.ErrFull, Line: 2, Column: 5}, "\xff": {Err: 10, Line: 1, Column: 1}, "x = 1; # \xff": {Err: 40, Line: 1, Column: 1},
	} {
		p, w := Tree([]byte(s))
		c, w2 := Compile([]byte(s))
		f, w3 := Format([]byte(s))
		i, w4 := Info([]byte(s), 2)
		if w != want || w2 != want || w3 != want || w4 != want {
			t.Errorf("%.20q: %v %v %v %v", s, w, w2, w3, w4)
		}
		if want != (tree.Wrong{}) && (!reflect.DeepEqual(p, tree.Program{}) || !reflect.DeepEqual(c, code.Program{}) || f != "" || i != Facts{}) {
			t.Errorf("%.20q: something beside what is wrong", s)
		}
	}
	many := []byte("int x;" + strings.Repeat("x=1;", 2100))
	if _, w := Tree(many); w != (tree.Wrong{}) {
		t.Errorf("%v", w)
	}
	if c, w := Compile(many); w != (tree.Wrong{Err: api.ErrFull}) || c.Code != nil {
		t.Errorf("%v", w)
	}
	if f, w := Info(many, 2); w != (tree.Wrong{Err: api.ErrFull}) || f != (Facts{}) {
		t.Errorf("%v", w)
	}
	if s, w := Format(many); w != (tree.Wrong{}) || len(s) != 7+7*2100 {
		t.Errorf("%v", w)
	}
	long := []byte("int x;" + strings.Repeat("x=1;", 2900))
	if s, w := Format(long); w != (tree.Wrong{Err: api.ErrLong}) || s != "" {
		t.Errorf("%v", w)
	}
	if _, w := Tree(long); w != (tree.Wrong{}) {
		t.Errorf("%v", w)
	}
}

// TestTold: P10.1 to P10.4: what is told.
func TestTold(t *testing.T) {
	text := []byte("int x; x=1;")
	p, _ := Tree(text)
	if len(p.Body) != 1 || p.Body[0].Op != tree.SSet || p.Body[0].Column != 8 {
		t.Errorf("%v", p)
	}
	c, _ := Compile(text)
	if s, e := code.Text(c); s != "vars 1\narrays\nnum 1\nset\nstop\n" || e != api.OK {
		t.Errorf("%q", s)
	}
	if s, _ := Format(text); s != "int x;\nx = 1;\n" {
		t.Errorf("%q", s)
	}
	for ranks, limits := range map[int]bound.Bound{2: {Steps: 3}, 0: {}, 65: {}, -1: {}} {
		if f, w := Info(text, ranks); f != (Facts{Words: 7, Lines: 2, Size: 3, Counted: true, Limits: limits}) || w != (tree.Wrong{}) {
			t.Errorf("%d: %v %v", ranks, f, w)
		}
	}
	if f, w := Info([]byte("while 1 { recv(0, any, 0); }"), 2); f != (Facts{Words: 13, Lines: 3, Size: 8}) || w != (tree.Wrong{}) {
		t.Errorf("%v %v", f, w)
	}
	if f, _ := Info([]byte("int x; for x < size { recv(0, any, 0); }"), 3); f.Limits != (bound.Bound{Steps: 6 + 3*13 + 1, Calls: 3, Decisions: 3}) {
		t.Errorf("%v", f)
	}
}

func told(d *sample.Dice) api.Result {
	x := api.Result{Flag: d.Throw(2) == 0, Value: int64(d.Throw(5) - 2), Peer: d.Throw(3), Tag: d.Throw(3), Req: d.Throw(3), Index: d.Throw(3) - 1, Comm: d.Throw(3)}
	for range d.Throw(3) {
		x.Row = append(x.Row, int64(d.Throw(4)))
	}
	return x
}

// TestMany: P10.5, P10.6 of many texts, and P4 of the whole.
func TestMany(t *testing.T) {
	for seed := range 300 {
		text := []byte(sample.Program(seed, false))
		p, _ := Tree(text)
		c, w := Compile(text)
		own, w2 := Format(text)
		c2, w3 := Compile([]byte(own))
		own2, _ := Format([]byte(own))
		if w != (tree.Wrong{}) || w2 != (tree.Wrong{}) || w3 != (tree.Wrong{}) || !code.Same(c, c2) || own != own2 {
			t.Fatalf("%d: its own text: %v %v %v", seed, w, w2, w3)
		}
		r, _ := vm.New(c, 0, 2)
		by, _ := walk.New(p, 0, 2)
		d := sample.Seeded(seed)
		for calls := 0; ; calls++ {
			out, _ := r.Run(1 << 30)
			same, _ := by.Run(1 << 30)
			if !reflect.DeepEqual(out, same) {
				t.Fatalf("%d: %v %v", seed, out, same)
			}
			if out.Kind != vm.OutCall {
				break
			}
			x := told(d)
			r.Give(x)
			by.Give(x)
		}
	}
}

// TestBytes: P10.7 and P4 of the whole: whatever bytes there are.
func TestBytes(t *testing.T) {
	parts := strings.Split("int |x|;|=|1|+|(|)|{|}|if |else |while |for |size |<|recv|(0,1,2);|stop;|#\n|$|\xff| |,|[|]|assert |x=1;|int x;", "|")
	d := sample.Seeded(3)
	good := 0
	for range 20000 {
		s := "int x;"
		for range d.Throw(9) {
			s += d.One(parts...)
		}
		text := []byte(s)
		c, w := Compile(text)
		if w == (tree.Wrong{}) {
			good++
			if !code.May(c) {
				t.Fatalf("%q may not be", s)
			}
			continue
		}
		l, line, column, e := scan.Scan(text)
		first := tree.Wrong{Err: e, Line: line, Column: column}
		if e == api.OK {
			_, first = tree.Parse(l)
		}
		if first != (tree.Wrong{}) && first != w || w.Line > 1+strings.Count(s, "\n") || w.Line > 0 && w.Column < 1 || w.Column > len(s) || w.Err == 0 {
			t.Fatalf("%q: %v, first %v", s, w, first)
		}
	}
	if good < 500 {
		t.Errorf("%d good ones only", good)
	}
}
