package tree

import (
	"reflect"
	"strings"
	"testing"

	"dispatcher/api"
	"dispatcher/sample"
	"dispatcher/scan"
)

func words(t *testing.T, s string) []scan.Token {
	t.Helper()
	l, _, _, e := scan.Scan([]byte(s))
	if e != api.OK {
		t.Fatalf("%q: %d", s, e)
	}
	return l
}

func parsed(t *testing.T, s string) Program {
	t.Helper()
	p, w := Parse(words(t, s))
	if w != (Wrong{}) {
		t.Fatalf("%q: %v", s, w)
	}
	return p
}

// TestCalls: P2.1.
func TestCalls(t *testing.T) {
	for word, want := range map[string][3]int{
		"send": {int(api.CkSend), 5, 5}, "ssend": {int(api.CkSsend), 5, 5}, "bsend": {int(api.CkBsend), 5, 5}, "isend": {int(api.CkIsend), 5, 5}, "issend": {int(api.CkIssend), 5, 5},
		"recv": {int(api.CkRecv), 3, 3}, "irecv": {int(api.CkIrecv), 3, 3}, "wait": {int(api.CkWait), 1, 1}, "waitall": {int(api.CkWaitall), 1, 8},
		"waitany": {int(api.CkWaitany), 1, 8}, "test": {int(api.CkTest), 1, 1}, "testany": {int(api.CkTestany), 1, 8}, "probe": {int(api.CkProbe), 3, 3},
		"iprobe": {int(api.CkIprobe), 3, 3}, "barrier": {int(api.CkBarrier), 1, 1}, "bcast": {int(api.CkBcast), 3, 3}, "reduce": {int(api.CkReduce), 3, 3},
		"allreduce": {int(api.CkAllreduce), 2, 2}, "gather": {int(api.CkGather), 3, 3}, "dup": {int(api.CkDup), 1, 1}, "split": {int(api.CkSplit), 3, 3}, "free": {int(api.CkFree), 1, 1},
		"": {}, "sum": {}, "x": {}, "int": {}, "sends": {},
	} {
		kind := Call(word)
		least, most := Args(kind)
		if int(kind) != want[0] || least != want[1] || most != want[2] {
			t.Errorf("%q: %d %d %d", word, kind, least, most)
		}
	}
	for _, kind := range []uint8{0, api.CkFree + 1, 255} {
		if least, most := Args(kind); least != 0 || most != 0 {
			t.Errorf("%d: %d %d", kind, least, most)
		}
	}
}

func num(n int64, column int) Expr { return Expr{Op: XNum, Num: n, Line: 1, Column: column} }

// TestParse: P2.2: trees.
func TestParse(t *testing.T) {
	p := parsed(t, "int x; x = 1 + 2 * 3;")
	want := Program{
		Decls: []Decl{{Name: "x", Line: 1, Column: 5}},
		Body: []Stmt{{Op: SSet, Name: "x", Line: 1, Column: 8, Exprs: []Expr{{Op: XAdd, Line: 1, Column: 14, Args: []Expr{
			num(1, 12), {Op: XMul, Line: 1, Column: 18, Args: []Expr{num(2, 16), num(3, 20)}}}}}}},
	}
	if !reflect.DeepEqual(p, want) {
		t.Errorf("%v", p)
	}
	p = parsed(t, "int a[1000];\nfor x < size { reduce(0, rank, (1), max); }\nif !-a[2] { } else { stop; }")
	want = Program{
		Decls: []Decl{{Name: "a", Places: 1000, Line: 1, Column: 5}},
		Body: []Stmt{
			{Op: SFor, Name: "x", Line: 2, Column: 1, Body: []Stmt{{Op: SCall, Kind: api.CkReduce, Red: api.RdMax, Line: 2, Column: 16, Exprs: []Expr{
				{Op: XNum, Line: 2, Column: 23}, {Op: XWord, Name: "rank", Line: 2, Column: 26}, {Op: XNum, Num: 1, Line: 2, Column: 33}}}}},
			{Op: SIf, Line: 3, Column: 1, Exprs: []Expr{{Op: XNot, Line: 3, Column: 4, Args: []Expr{{Op: XNeg, Line: 3, Column: 5, Args: []Expr{
				{Op: XPlace, Name: "a", Line: 3, Column: 6, Args: []Expr{{Op: XNum, Num: 2, Line: 3, Column: 8}}}}}}}}, Else: []Stmt{{Op: SStop, Line: 3, Column: 22}}},
		},
	}
	if !Same(p, want, true) {
		t.Errorf("%v", p)
	}
}

// TestStrengths: P2.2: which side is whose.
func TestStrengths(t *testing.T) {
	for a, b := range map[string]string{
		"1 - 2 - 3": "(1 - 2) - 3", "1 || 2 && 3": "1 || (2 && 3)", "1 && 2 || 3": "(1 && 2) || 3", "1 < 2 && 3": "(1 < 2) && 3",
		"1 + 2 <= 3 - 4": "(1 + 2) <= (3 - 4)", "-1 * 2": "(-1) * 2", "!1 == 2": "(!1) == 2", "1 + 2 % 3 / 4": "1 + ((2 % 3) / 4)", "1 && 2 && 3": "(1 && 2) && 3",
		"1 || 2 || 3": "(1 || 2) || 3", "- !row[1 + 2]": "-(!(row[(1 + 2)]))", "1 != (2 > 3)": "(1) != ((2) > (3))", "(((1)))": "1", "1 >= 2": "(1) >= 2",
	} {
		p, q := parsed(t, "assert "+a+";"), parsed(t, "assert "+b+";")
		if !Same(p, q, false) {
			t.Errorf("%s: %v", a, p)
		}
	}
	if Same(parsed(t, "assert 1 - (2 - 3);"), parsed(t, "assert 1 - 2 - 3;"), false) {
		t.Errorf("parentheses don't matter")
	}
}

// TestWrong: P2.2: the first word that may not stand there.
func TestWrong(t *testing.T) {
	for s, column := range map[string]int{
		"": -1, "x = 1": 0, "x": 0, "int": 0, "int x": 0, "int x[": 0, "if 1 {": 0, "if 1 { } else": 0, "send(0, 1": 0, "x = (1;": 7, "x = -": 0,
		"x = 1 < 2 < 3;": 11, "x = 1 < 2 == 3;": 11, "for i < 0 { }": 9, "for i < 1001 { }": 9, "for i < 1000 { }": -1, "for i < rank { }": 9, "for i <= 3 { }": 7, "for 3 < 3 { }": 5,
		"send(0, 1, 2, 3);": 16, "send(0, 1, 2, 3, 4, 5);": 19, "wait();": 6, "wait(1, 2);": 7, "waitall(1,2,3,4,5,6,7,8);": -1, "waitall(1,2,3,4,5,6,7,8,9);": 24,
		"reduce(0, 1, 2);": 15, "reduce(0, 1, 2, 3);": 17, "reduce(0, 1, 2, sum);": -1, "allreduce(0, 1, min);": -1, "allreduce(0, 1, 2, min);": 17, "bcast(0, 1, 2, sum);": 14,
		"int a[0];": 7, "int a[1001];": 7, "int a[1000];": -1, "int a[x];": 7, "int if;": 5, "int 3;": 5, "x = 1; int y;": 8, "int x = 3;": 7,
		"else { }": 1, "if 1 { } else if 1 { }": 15, "if 1 stop;": 6, "}": 1, "stop": 0, "stop 1;": 6, "assert;": 7, "x = ;": 5, "x = row;": 8, "x = row[1;": 10, "x = sum;": 5, "x = stop;": 5,
		"sum = 1;": 1, "rank = 1;": 1, "3 = 1;": 1, "(x) = 1;": 1, "x == 1;": 3, "x[1] 2;": 6, "x[1]": 0, "x = a[1][2];": 9, "x = 1 2;": 7, "x = 1 + * 2;": 9, "x = 1 ! 2;": 7, "while { }": 7, "{ }": 1, ";": 1,
	} {
		p, w := Parse(words(t, s))
		want := Wrong{api.ErrTree, 1, column}
		if column < 0 {
			want = Wrong{}
		} else if column == 0 {
			want.Line = 0
		}
		if w != want || w.Err != api.OK && !reflect.DeepEqual(p, Program{}) {
			t.Errorf("%q: %v", s, w)
		}
	}
}

// TestForged: P2.2: words that aren't what their texts are.
func TestForged(t *testing.T) {
	for _, x := range []scan.Token{
		{}, {Kind: scan.TName, Text: "if"}, {Kind: scan.TNumber, Text: "1", Num: 2}, {Kind: scan.TNumber, Text: "01", Num: 1}, {Kind: scan.TName, Text: "x "}, {Kind: scan.TName, Text: "x", Num: 1},
		{Kind: scan.TWord, Text: "x"}, {Kind: scan.TSign, Text: "=;"}, {Kind: 9, Text: "x"}, {Kind: scan.TName, Text: strings.Repeat("x", 30000)}, {Kind: scan.TSign, Text: ""}, {Kind: scan.TName, Text: "x\n#"},
	} {
		x.Line, x.Column = 7, -7
		l := words(t, "int x; if x { x = 1; } else { recv(0, 1, 2); }")
		for at := range l {
			bad := append(append(append([]scan.Token{}, l[:at]...), x), l[at:]...)
			if _, w := Parse(bad); w != (Wrong{api.ErrTree, 7, -7}) {
				t.Errorf("%v at %d: %v", x, at, w)
			}
		}
		if _, w := Parse([]scan.Token{l[0], l[0], x}); w != (Wrong{api.ErrTree, 1, 1}) {
			t.Errorf("an earlier one: %v", w)
		}
	}
}

func nested(open, inner, end string, deep int) string {
	return strings.Repeat(open, deep) + inner + strings.Repeat(end, deep)
}

// TestDeep: P2.2 (ErrFull), P2.3.
func TestDeep(t *testing.T) {
	for _, x := range []struct {
		s    string
		deep int
	}{
		{"", 0}, {"int x;", 0}, {"stop;", 1}, {"assert 1;", 1}, {"assert ((((1))));", 1}, {"assert 1+1;", 2}, {"if 1 { } else { }", 1}, {"if 1 { } else { stop; }", 2},
		{nested("if 1 { ", "stop;", " }", 31), 32}, {nested("while 1 { ", "", " }", 32), 32}, {nested("if 1 { ", "stop;", " }", 32), 33}, {nested("if 1 { } else { ", "stop;", " }", 32), 33},
		{"assert " + nested("-", "1", "", 31) + ";", 32}, {"assert " + nested("!", "1", "", 32) + ";", 33}, {"assert 1" + nested("+1", "", "", 31) + ";", 32}, {"assert 1" + nested("*1", "", "", 32) + ";", 33},
		{"assert " + nested("row[", "1", "]", 32) + ";", 33}, {"assert " + nested("(", "1", ")", 500) + ";", 1}, {"assert 1" + nested("+1", "", "", 5000) + ";", 5001},
		{"x[" + nested("1+(", "1", ")", 31) + "] = 1;", 32}, {"send(0, 0, 0, " + nested("1+(", "1", ")", 32) + ", 1);", 33},
	} {
		p, w := Parse(words(t, x.s))
		if x.deep > 32 {
			if w != (Wrong{Err: api.ErrFull}) || !reflect.DeepEqual(p, Program{}) {
				t.Errorf("%.30q: %v", x.s, w)
			}
			if _, w := Parse(words(t, x.s+" }")); w != (Wrong{api.ErrTree, 1, len(x.s) + 2}) {
				t.Errorf("%.30q: what stands wrong is told first: %v", x.s, w)
			}
			continue
		}
		if w != (Wrong{}) || Deep(p) != x.deep || !May(p) {
			t.Errorf("%.30q: %v %d", x.s, w, Deep(p))
		}
	}
	for _, x := range []struct {
		s    string
		deep int
	}{
		{"if 1 { assert - 1; }", 2}, {"if 1 { if 1 { assert 1 + 2; } }", 3}, {"if 1 { } else { assert - - - 1; }", 4}, {"if - - 1 { stop; }", 3}, {"while - 1 { while - - 1 { x = - - - 1; } }", 4}, {"for x < 3 { a[- - - - 1] = 1; }", 5},
		{"x = - - - 1; if 1 { stop; }", 4}, {"if 1 { if 1 { if 1 { if 1 { stop; } } } x = - 1; }", 5}, {"if 1 { send(0, 1, - - 2, 3, 4); stop; }", 3}, {nested("if 1 { ", "assert "+nested("-", "1", "", 31)+";", " }", 31), 32},
		{nested("for x < 2 { ", "assert row["+nested("!", "1", "", 30)+"];", " }", 12), 32}, {nested("if 1 { } else { ", "assert 1+1;", " }", 31), 32},
	} {
		if p := parsed(t, x.s); Deep(p) != x.deep || !May(p) {
			t.Errorf("each for itself: %.40q: %d", x.s, Deep(p))
		}
	}
	e := Expr{Op: XNum}
	for range 40 {
		e = Expr{Op: XNeg, Args: []Expr{e}}
	}
	p := Program{Body: []Stmt{{Op: SAssert, Exprs: []Expr{e}}}}
	if Deep(p) != 41 || May(p) {
		t.Errorf("%d", Deep(p))
	}
	for range 50 {
		p = Program{Body: []Stmt{{Op: SIf, Exprs: []Expr{{Op: XNum}}, Else: p.Body}}}
	}
	if Deep(p) != 51 || May(p) {
		t.Errorf("each for itself, of what may not be: %d", Deep(p))
	}
}

// TestMay: P2.3.
func TestMay(t *testing.T) {
	one := []Expr{{Op: XNum, Num: 1}}
	two := []Expr{one[0], one[0]}
	set := Stmt{Op: SSet, Name: "x", Exprs: one}
	body := []Stmt{set}
	for i, x := range []struct {
		s  Stmt
		ok bool
	}{
		{set, true}, {Stmt{}, false}, {Stmt{Op: 99}, false}, {Stmt{Op: SSet, Name: "if", Exprs: one}, false}, {Stmt{Op: SSet, Exprs: one}, false}, {Stmt{Op: SSet, Name: "x"}, false}, {Stmt{Op: SSet, Name: "x", Exprs: two}, false},
		{Stmt{Op: SSet, Name: "x", Exprs: one, Turns: 1}, false}, {Stmt{Op: SSet, Name: "x", Exprs: one, Body: body}, false}, {Stmt{Op: SSet, Name: "x", Exprs: one, Else: body}, false}, {Stmt{Op: SSet, Name: "x", Exprs: one, Body: []Stmt{}}, true},
		{Stmt{Op: SSet, Name: "x", Exprs: one, Kind: 1}, false}, {Stmt{Op: SSet, Name: "x", Exprs: one, Red: 1}, false},
		{Stmt{Op: SPut, Name: "x", Exprs: two}, true}, {Stmt{Op: SPut, Name: "x", Exprs: one}, false}, {Stmt{Op: SPut, Exprs: two}, false},
		{Stmt{Op: SIf, Exprs: one, Body: body, Else: body}, true}, {Stmt{Op: SIf, Exprs: one}, true}, {Stmt{Op: SIf, Body: body}, false}, {Stmt{Op: SIf, Name: "x", Exprs: one}, false}, {Stmt{Op: SIf, Name: "?", Exprs: one}, false}, {Stmt{Op: SIf, Exprs: one, Else: []Stmt{{}}}, false},
		{Stmt{Op: SWhile, Exprs: one, Body: body}, true}, {Stmt{Op: SWhile, Exprs: one, Else: body}, false}, {Stmt{Op: SWhile, Exprs: one, Body: []Stmt{{}}}, false},
		{Stmt{Op: SFor, Name: "x", Turns: 1000, Body: body}, true}, {Stmt{Op: SFor, Name: "x"}, true}, {Stmt{Op: SFor, Name: "x", Turns: 1001}, false}, {Stmt{Op: SFor, Name: "x", Turns: -1}, false}, {Stmt{Op: SFor, Name: "x", Exprs: one}, false}, {Stmt{Op: SFor, Turns: 1}, false}, {Stmt{Op: SFor, Name: "x", Else: body}, false},
		{Stmt{Op: SAssert, Exprs: one}, true}, {Stmt{Op: SAssert}, false}, {Stmt{Op: SStop}, true}, {Stmt{Op: SStop, Exprs: one}, false}, {Stmt{Op: SStop, Turns: 3}, false},
		{Stmt{Op: SCall, Kind: api.CkWait, Exprs: one}, true}, {Stmt{Op: SCall, Kind: api.CkWait, Exprs: two}, false}, {Stmt{Op: SCall, Kind: api.CkWaitany, Exprs: two}, true}, {Stmt{Op: SCall, Exprs: one}, false}, {Stmt{Op: SCall, Kind: 200, Exprs: one}, false},
		{Stmt{Op: SCall, Kind: api.CkWait, Exprs: one, Red: 1}, false}, {Stmt{Op: SCall, Kind: api.CkAllreduce, Exprs: two, Red: 2}, true}, {Stmt{Op: SCall, Kind: api.CkAllreduce, Exprs: two, Red: 3}, false}, {Stmt{Op: SCall, Kind: api.CkWait, Exprs: one, Name: "x"}, false},
		{Stmt{Op: SCall, Kind: api.CkWait, Exprs: one, Body: body}, false}, {Stmt{Op: SCall, Kind: api.CkWait, Exprs: one, Turns: 1}, false}, {Stmt{Op: SCall, Kind: api.CkWait, Exprs: []Expr{{}}}, false}, {Stmt{Op: SCall, Kind: api.CkWaitall}, false},
	} {
		x.s.Line = -5
		if p := (Program{Body: []Stmt{x.s}}); May(p) != x.ok {
			t.Errorf("%d: %v", i, x.s)
		}
	}
	for i, x := range []struct {
		e  Expr
		ok bool
	}{
		{Expr{}, false}, {Expr{Op: XNum, Num: 999999999999999999}, true}, {Expr{Op: XNum, Num: 1000000000000000000}, false}, {Expr{Op: XNum, Num: -1}, false}, {Expr{Op: XNum, Name: "x"}, false}, {Expr{Op: XNum, Args: one}, false}, {Expr{Op: XNum, Args: []Expr{}}, true},
		{Expr{Op: XName, Name: "x"}, true}, {Expr{Op: XName}, false}, {Expr{Op: XName, Name: "x", Num: 1}, false}, {Expr{Op: XName, Name: "rank"}, false}, {Expr{Op: XName, Name: "x", Args: one}, false},
		{Expr{Op: XPlace, Name: "x", Args: one}, true}, {Expr{Op: XPlace, Name: "x", Args: two}, false}, {Expr{Op: XPlace, Args: one}, false}, {Expr{Op: XRow, Args: one}, true}, {Expr{Op: XRow, Name: "row", Args: one}, false}, {Expr{Op: XRow}, false},
		{Expr{Op: XWord, Name: "comm"}, true}, {Expr{Op: XWord, Name: "row"}, false}, {Expr{Op: XWord, Name: "x"}, false}, {Expr{Op: XWord, Name: "any", Args: one}, false}, {Expr{Op: XNeg, Args: one}, true}, {Expr{Op: XNot, Args: two}, false}, {Expr{Op: XNeg, Args: one, Name: "x"}, false},
		{Expr{Op: XMul, Args: two}, true}, {Expr{Op: XOr, Args: two}, true}, {Expr{Op: XAnd, Args: one}, false}, {Expr{Op: XAdd, Args: two, Num: 1}, false}, {Expr{Op: XOr + 1, Args: two}, false}, {Expr{Op: XAdd, Args: []Expr{one[0], {}}}, false},
	} {
		if p := (Program{Body: []Stmt{{Op: SAssert, Exprs: []Expr{x.e}}}}); May(p) != x.ok {
			t.Errorf("%d: %v", i, x.e)
		}
	}
	for i, x := range []struct {
		d  Decl
		ok bool
	}{{Decl{Name: "x"}, true}, {Decl{Name: "x", Places: 1000}, true}, {Decl{Name: "x", Places: 1001}, false}, {Decl{Name: "x", Places: -1}, false}, {Decl{}, false}, {Decl{Name: "int"}, false}} {
		if May(Program{Decls: []Decl{x.d}}) != x.ok {
			t.Errorf("%d: %v", i, x.d)
		}
	}
	if !May(Program{}) {
		t.Errorf("the empty one")
	}
}

// changes tells trees that are each unlike p in one field.
func changes(p Program, change func(func(*Stmt), func(*Expr), func(*Decl)) Program) (l []Program) {
	for _, f := range []func(*Stmt){
		func(s *Stmt) { s.Op++ }, func(s *Stmt) { s.Kind++ }, func(s *Stmt) { s.Red++ }, func(s *Stmt) { s.Name += "x" }, func(s *Stmt) { s.Turns++ },
		func(s *Stmt) { s.Exprs = append(s.Exprs[:len(s.Exprs):len(s.Exprs)], Expr{}) }, func(s *Stmt) { s.Body = append(s.Body[:len(s.Body):len(s.Body)], Stmt{}) }, func(s *Stmt) { s.Else = append(s.Else[:len(s.Else):len(s.Else)], Stmt{}) },
	} {
		l = append(l, change(f, nil, nil))
	}
	for _, f := range []func(*Expr){func(e *Expr) { e.Op++ }, func(e *Expr) { e.Num++ }, func(e *Expr) { e.Name += "x" }, func(e *Expr) { e.Args = append(e.Args[:len(e.Args):len(e.Args)], Expr{}) }} {
		l = append(l, change(nil, f, nil))
	}
	for _, f := range []func(*Decl){func(d *Decl) { d.Name += "x" }, func(d *Decl) { d.Places++ }} {
		l = append(l, change(nil, nil, f))
	}
	return l
}

// TestSame: P2.4.
func TestSame(t *testing.T) {
	p := parsed(t, "int x; int a[3]; if x { for x < 3 { a[x + 1] = 7; } } else { reduce(0, 1, x, max); }")
	before := Copy(p)
	q := Copy(p)
	if !reflect.DeepEqual(p, q) || !Same(p, q, true) || !Same(p, q, false) {
		t.Fatalf("a copy is the same")
	}
	change := func(s func(*Stmt), e func(*Expr), d func(*Decl)) Program {
		q := Copy(p)
		switch {
		case s != nil:
			s(&q.Body[0].Body[0].Body[0])
		case e != nil:
			e(&q.Body[0].Body[0].Body[0].Exprs[0].Args[1])
		default:
			d(&q.Decls[1])
		}
		return q
	}
	for i, q := range changes(p, change) {
		if Same(p, q, false) || Same(q, p, true) {
			t.Errorf("change %d isn't seen", i)
		}
	}
	for i, f := range []func(*Program){
		func(q *Program) { q.Decls[0].Line++ }, func(q *Program) { q.Decls[1].Column++ }, func(q *Program) { q.Body[0].Else[0].Line++ }, func(q *Program) { q.Body[0].Column++ },
		func(q *Program) { q.Body[0].Else[0].Exprs[2].Line++ }, func(q *Program) { q.Body[0].Body[0].Body[0].Exprs[0].Args[0].Column++ },
	} {
		q := Copy(p)
		f(&q)
		if !Same(p, q, false) || Same(p, q, true) {
			t.Errorf("place %d", i)
		}
	}
	if !reflect.DeepEqual(p, before) {
		t.Errorf("a copy's change is seen in the tree")
	}
	if !Same(Program{Body: []Stmt{{Op: SStop}}}, Program{Decls: []Decl{}, Body: []Stmt{{Op: SStop, Exprs: []Expr{}, Else: []Stmt{}}}}, true) {
		t.Errorf("none and empty are the same")
	}
}

func everyPlace(p Program) (l [][2]int) {
	var exprs func([]Expr)
	var body func([]Stmt)
	exprs = func(es []Expr) {
		for _, e := range es {
			l = append(l, [2]int{e.Line, e.Column})
			exprs(e.Args)
		}
	}
	body = func(ss []Stmt) {
		for _, s := range ss {
			l = append(l, [2]int{s.Line, s.Column})
			exprs(s.Exprs)
			body(s.Body)
			body(s.Else)
		}
	}
	for _, d := range p.Decls {
		l = append(l, [2]int{d.Line, d.Column})
	}
	body(p.Body)
	return l
}

// TestMany: P2.2, P2.5, P2.6 and P2.7 of many texts.
func TestMany(t *testing.T) {
	for seed := range 200 {
		l := words(t, sample.Program(seed, true))
		p, w := Parse(l)
		if w != (Wrong{}) || !May(p) {
			t.Fatalf("%d: %v", seed, w)
		}
		is := map[[2]int]int{}
		for i, x := range l {
			is[[2]int{x.Line, x.Column}] = i + 1
		}
		for _, x := range everyPlace(p) {
			if is[x] == 0 {
				t.Fatalf("%d: no word at %v", seed, x)
			}
		}
		moved := append([]scan.Token{}, l...)
		for i := range moved {
			moved[i].Line, moved[i].Column = 1, i
		}
		if q, w := Parse(moved); w != (Wrong{}) || !Same(p, q, false) || Same(p, q, true) && len(l) > 3 {
			t.Fatalf("%d: places change the tree", seed)
		}
		if _, w := Parse(l[:len(l)-1]); w != (Wrong{Err: api.ErrTree}) {
			t.Fatalf("%d: cut: %v", seed, w)
		}
		firstWrong(t, seed, moved)
	}
}

// firstWrong changes words, and asks whether the word is told at which the words up to it are wrong.
func firstWrong(t *testing.T, seed int, l []scan.Token) {
	d := sample.Seeded(seed)
	for range 4 {
		bad := append([]scan.Token{}, l...)
		x := bad[d.Throw(len(l))]
		at := d.Throw(len(l))
		x.Line, x.Column = 1, at
		bad[at] = x
		_, w := Parse(bad)
		for end := range len(bad) {
			_, cut := Parse(bad[:end+1])
			if cut.Err == api.ErrTree && cut.Line == 1 {
				if cut != w || w.Column != end {
					t.Fatalf("%d: %v, but %v up to %d", seed, w, cut, end)
				}
				break
			}
		}
	}
}
