package compile

import (
	"reflect"
	"strings"
	"testing"

	"dispatcher/api"
	"dispatcher/code"
	"dispatcher/sample"
	"dispatcher/scan"
	"dispatcher/scope"
	"dispatcher/show"
	"dispatcher/tree"
)

func parsed(t *testing.T, s string) tree.Program {
	t.Helper()
	l, _, _, e := scan.Scan([]byte(s))
	p, w := tree.Parse(l)
	if e != api.OK || w != (tree.Wrong{}) {
		t.Fatalf("%q: %d %v", s, e, w)
	}
	return p
}

// TestCompile: P6.1: instructions.
func TestCompile(t *testing.T) {
	for s, want := range map[string]string{
		"": "stop", "int x; x = 1 + 2;": "num 1, num 2, add, set, stop",
		"int x; for x < 2 { }":                             "num, dup, num 2, less, zero 10, dup, set, num 1, add, jump 1, pop, stop",
		"int y; int x; for x < size { y = x; }":            "num, dup, word 1, less, zero 12, dup, set 1, get 1, set, num 1, add, jump 1, pop, stop",
		"if 1 { stop; }":                                   "num 1, zero 3, stop, stop",
		"if 1 { stop; } else { }":                          "num 1, zero 3, stop, stop",
		"if 1 { } else { stop; }":                          "num 1, zero 3, jump 4, stop, stop",
		"if 1 { stop; } else { stop; }":                    "num 1, zero 4, stop, jump 5, stop, stop",
		"while rank { assert 2; }":                         "word, zero 5, num 2, assert, jump, stop",
		"stop; while 1 { }":                                "stop, num 1, zero 4, jump 1, stop",
		"assert 1 && 2;":                                   "num 1, zero 5, num 2, truth, jump 6, num, assert, stop",
		"assert 1 || 2;":                                   "num 1, else 5, num 2, truth, jump 6, num 1, assert, stop",
		"int a[2]; int b[3]; b[a[1]] = row[-!2];":          "num 1, at, num 2, not, neg, row, put 1, stop",
		"assert rank+size+any+value+peer;":                 "word, word 1, add, word 2, add, word 3, add, word 4, add, assert, stop",
		"assert tag+flag+index+req+comm;":                  "word 5, word 6, add, word 7, add, word 8, add, word 9, add, assert, stop",
		"assert 1*2/3%4-5;":                                "num 1, num 2, mul, num 3, div, num 4, mod, num 5, sub, assert, stop",
		"assert (1<2)+(1<=2)+(1>2);":                       "num 1, num 2, less, num 1, num 2, lesseq, add, num 1, num 2, more, add, assert, stop",
		"assert (1>=2)+(1==2)+(1!=2);":                     "num 1, num 2, moreeq, num 1, num 2, same, add, num 1, num 2, other, add, assert, stop",
		"reduce(0, 1, 2, min); send(1, 2, 3, 4, 5);":       "num, num 1, num 2, call 2161, num 1, num 2, num 3, num 4, num 5, call 161, stop",
		"waitall(1, 2); allreduce(3, 4, max); barrier(0);": "num 1, num 2, call 73, num 3, num 4, call 1106, num, call 47, stop",
	} {
		p, w := Compile(parsed(t, s))
		text, e := code.Text(p)
		_, text, _ = strings.Cut(text, "\n")
		_, text, _ = strings.Cut(text, "\n")
		text = strings.ReplaceAll(strings.TrimSuffix(text, "\n"), "\n", ", ")
		if w != (tree.Wrong{}) || e != api.OK || text != want {
			t.Errorf("%s: %v %d %s", s, w, e, text)
		}
	}
	p, _ := Compile(parsed(t, "int x; int a[2]; int b[3]; int y;"))
	if p.Vars != 2 || !reflect.DeepEqual(p.Arrays, []int{2, 3}) {
		t.Errorf("%v", p)
	}
}

// TestWrong: P6.1: what is wrong, P6.2.
func TestWrong(t *testing.T) {
	one := parsed(t, "int x; x = 1;")
	for n := 1998; n < 2001; n++ {
		p := tree.Program{Decls: one.Decls}
		for range n {
			p.Body = append(p.Body, one.Body[0])
		}
		c, w := Compile(p)
		if fits := 2*n+1 <= api.MaxCode; fits != (w == tree.Wrong{}) || !fits && w != (tree.Wrong{Err: api.ErrFull}) || fits != (len(c.Code) > 0) || !fits && !reflect.DeepEqual(c, code.Program{}) || Size(p) != 2*n+1 {
			t.Errorf("%d: %v", n, w)
		}
	}
	p := one
	p.Body = append(p.Body, tree.Stmt{Op: tree.SStop})
	for range 1999 {
		p.Body = append(p.Body, one.Body[0])
	}
	if c, w := Compile(p); w != (tree.Wrong{Err: api.ErrFull}) || len(c.Code) != 0 || Size(p) != 4002 {
		t.Errorf("%v", w)
	}
	p.Body = p.Body[1:]
	if c, w := Compile(p); w != (tree.Wrong{}) || len(c.Code) != api.MaxCode {
		t.Errorf("%v", w)
	}
	for s, want := range map[string]tree.Wrong{"x = 1;": {Err: 40, Line: 1, Column: 1}, "int x; int x;": {Err: 40, Line: 1, Column: 12}} {
		if c, w := Compile(parsed(t, s)); w != want || !reflect.DeepEqual(c, code.Program{}) || Size(parsed(t, s)) != 0 {
			t.Errorf("%s: %v", s, w)
		}
	}
	bad := tree.Program{Body: []tree.Stmt{{}}}
	if c, w := Compile(bad); w != (tree.Wrong{Err: api.ErrArg}) || !reflect.DeepEqual(c, code.Program{}) || Size(bad) != 0 {
		t.Errorf("%v", w)
	}
	if Size(tree.Program{}) != 1 {
		t.Errorf("the empty one")
	}
}

// TestExpr: P6.3.
func TestExpr(t *testing.T) {
	table, _ := scope.New(parsed(t, "int x; int a[2]; int y;"))
	expr := func(s string) tree.Expr { return parsed(t, "assert "+s+";").Body[0].Exprs[0] }
	if l := Expr(table, expr("y && a[1]"), 10); !reflect.DeepEqual(l, []code.Instr{{Op: code.CoGet, N: 1}, {Op: code.CoZero, N: 16}, {Op: code.CoNum, N: 1}, {Op: code.CoAt}, {Op: code.CoTruth}, {Op: code.CoJump, N: 17}, {Op: code.CoNum}}) {
		t.Errorf("%v", l)
	}
	if l := Expr(nil, expr("1 + 2"), 0); !reflect.DeepEqual(l, []code.Instr{{Op: code.CoNum, N: 1}, {Op: code.CoNum, N: 2}, {Op: code.CoAdd}}) {
		t.Errorf("%v", l)
	}
	if l := Expr(table, expr("1 || 0"), -7); l[1].N != -2 || l[4].N != -1 {
		t.Errorf("%v", l)
	}
	for _, s := range []string{"z", "a", "x[0]", "1 + z", "a[z]", "0 && z[1]"} {
		if l := Expr(table, expr(s), 0); l != nil {
			t.Errorf("%s: %v", s, l)
		}
	}
	for _, e := range []tree.Expr{{}, {Op: tree.XNum, Num: -1}, {Op: tree.XAdd}} {
		if l := Expr(table, e, 0); l != nil {
			t.Errorf("%v: %v", e, l)
		}
	}
	if Expr(nil, expr("x"), 0) != nil || Expr(&scope.Table{}, expr("x"), 0) != nil {
		t.Errorf("no table has it")
	}
}

// moved tells instructions so many places further on.
func moved(l []code.Instr, by int) []code.Instr {
	out := append([]code.Instr{}, l...)
	for i, x := range out {
		if x.Op == code.CoJump || x.Op == code.CoZero || x.Op == code.CoElse {
			out[i].N += int64(by)
		}
	}
	return out
}

// TestMany: P6.2, P6.4, P6.5, P6.6 of many texts.
func TestMany(t *testing.T) {
	for seed := range 300 {
		text := sample.Program(seed, true)
		p := parsed(t, text)
		before := tree.Copy(p)
		c, w := Compile(p)
		if w != (tree.Wrong{}) || Size(p) != len(c.Code) || !tree.Same(before, p, true) {
			t.Fatalf("%d: %v, size %d, not %d", seed, w, len(c.Code), Size(p))
		}
		h, e := code.Heights(c)
		if last := len(h) - 1; e != api.OK || h[last] > 0 {
			t.Fatalf("%d: %d %v", seed, e, h)
		}
		both := p
		both.Body = append(append([]tree.Stmt{}, p.Body...), p.Body[:len(p.Body)/2]...)
		second := p
		second.Body = p.Body[:len(p.Body)/2]
		c1, _ := Compile(both)
		c2, _ := Compile(second)
		n := len(c.Code) - 1
		if !reflect.DeepEqual(c1.Code[:n], c.Code[:n]) || !reflect.DeepEqual(c1.Code[n:], moved(c2.Code, n)) {
			t.Fatalf("%d: one behind the other", seed)
		}
		own, _ := show.Program(p)
		for _, other := range []string{own, strings.ReplaceAll(own, "v0", "zz"), strings.ReplaceAll(own, " ", "\n\n ")} {
			if c2, w := Compile(parsed(t, other)); w != (tree.Wrong{}) || !code.Same(c, c2) {
				t.Fatalf("%d: names, places, blanks: %v", seed, w)
			}
		}
	}
}
