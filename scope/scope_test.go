package scope

import (
	"reflect"
	"strconv"
	"strings"
	"testing"

	"dispatcher/api"
	"dispatcher/sample"
	"dispatcher/scan"
	"dispatcher/tree"
)

func parsed(t *testing.T, s string) tree.Program {
	t.Helper()
	l, _, _, e := scan.Scan([]byte(s))
	p, w := tree.Parse(l)
	if e != api.OK || w != (tree.Wrong{}) {
		t.Fatalf("%q: %d %v", s, e, w)
	}
	return p
}

// many tells declarations: so many, each of that kind, with names of their own.
func many(n int, name, behind string) string {
	var b strings.Builder
	for i := range n {
		b.WriteString("int " + name + strconv.Itoa(i) + behind + ";\n")
	}
	return b.String()
}

// TestWrong: P4.1.
func TestWrong(t *testing.T) {
	for s, want := range map[string]tree.Wrong{
		"": {}, "int x; x = 1;": {}, "int x; x = y;": {Err: 40, Line: 1, Column: 12}, "int a[2]; a = 1;": {Err: 40, Line: 1, Column: 11}, "int x; int x;": {Err: 40, Line: 1, Column: 12}, "int x; int x[2];": {Err: 40, Line: 1, Column: 12},
		"int x; x[0] = 1;": {Err: 40, Line: 1, Column: 8}, "int x; x = x[0];": {Err: 40, Line: 1, Column: 12}, "int a[2]; assert a;": {Err: 40, Line: 1, Column: 18}, "int a[2]; a[y] = z;": {Err: 40, Line: 1, Column: 13}, "int a[2]; b[y] = z;": {Err: 40, Line: 1, Column: 11},
		"int a[2]; for a < 3 { }": {Err: 40, Line: 1, Column: 11}, "for a < 3 { x = 1; }": {Err: 40, Line: 1, Column: 1}, "int a[2]; assert b[c] + d;": {Err: 40, Line: 1, Column: 18}, "int a[2]; assert a[c] + d;": {Err: 40, Line: 1, Column: 20}, "int a[2]; assert a[0] + d;": {Err: 40, Line: 1, Column: 25},
		"if x { y = 1; } else { z = 1; }": {Err: 40, Line: 1, Column: 4}, "if 1 { y = 1; } else { z = 1; }": {Err: 40, Line: 1, Column: 8}, "if 1 { } else { z = 1; }": {Err: 40, Line: 1, Column: 17}, "while 1 {\nz = 1; }": {Err: 40, Line: 2, Column: 1}, "send(0, 1, 2, row[x], -y);": {Err: 40, Line: 1, Column: 19},
		"x = 1; int": {}, "int x; stop; x = !z;": {Err: 40, Line: 1, Column: 19}, "x = 1; y = 1;": {Err: 40, Line: 1, Column: 1},
		many(64, "x", ""): {}, many(65, "x", ""): {Err: 4, Line: 65, Column: 5}, many(64, "x", "") + "int a[5]; int y;": {Err: 4, Line: 65, Column: 15}, many(65, "x", "") + "int x0;": {Err: 4, Line: 65, Column: 5}, many(64, "x", "") + "int x0;": {Err: 40, Line: 65, Column: 5},
		many(10, "a", "[100]"): {}, many(10, "a", "[100]") + "int b[1];": {Err: 4, Line: 11, Column: 5}, many(9, "a", "[100]") + "int b[101]; x = 1;": {Err: 4, Line: 10, Column: 5}, many(9, "a", "[100]") + "int b[100]; x = 1;": {Err: 40, Line: 10, Column: 13},
	} {
		if strings.HasSuffix(s, "int") {
			continue
		}
		p := parsed(t, s)
		w := Check(p)
		table, w2 := New(p)
		if w != want || w2 != want || (table == nil) != (want != tree.Wrong{}) {
			t.Errorf("%.60q: %v %v", s, w, w2)
		}
	}
	bad := tree.Program{Decls: []tree.Decl{{Name: "if", Line: 3, Column: 4}}}
	if w := Check(bad); w != (tree.Wrong{Err: api.ErrArg}) {
		t.Errorf("%v", w)
	}
	if table, w := New(bad); table != nil || w != (tree.Wrong{Err: api.ErrArg}) {
		t.Errorf("%v", w)
	}
}

// TestFind: P4.2, P4.3.
func TestFind(t *testing.T) {
	p := parsed(t, "int x; int a[3]; int y; int b[2];")
	table, _ := New(p)
	p.Decls[0].Name = "q"
	for name, want := range map[string]Entry{"x": {KVar, 0, 0, 0}, "a": {KArray, 0, 0, 3}, "y": {KVar, 1, 0, 0}, "b": {KArray, 1, 3, 2}, "q": {}, "": {}} {
		if e := table.Find(name); e != want {
			t.Errorf("%s: %v", name, e)
		}
	}
	for range 2 {
		if table.Vars() != 2 || !reflect.DeepEqual(table.Arrays(), []int{3, 2}) || !reflect.DeepEqual(table.Names(), []string{"x", "a", "y", "b"}) {
			t.Errorf("%d %v %v", table.Vars(), table.Arrays(), table.Names())
		}
		table.Arrays()[0], table.Names()[0] = 7, "z"
	}
	for _, table := range []*Table{nil, {}} {
		if table.Find("x") != (Entry{}) || table.Vars() != 0 || len(table.Arrays()) != 0 || len(table.Names()) != 0 {
			t.Errorf("%v", table)
		}
	}
}

// renamed tells the text with another name in the place of one.
func renamed(t *testing.T, s, from, to string) string {
	l, _, _, e := scan.Scan([]byte(s))
	if e != api.OK {
		t.Fatal(e)
	}
	for i := range l {
		if l[i].Text == from {
			l[i].Text = to
		}
	}
	return scan.Text(l)
}

// TestMany: P4.4, P4.5, P4.6.
func TestMany(t *testing.T) {
	for seed := range 200 {
		text := sample.Program(seed, true)
		p := parsed(t, text)
		table, w := New(p)
		if w != (tree.Wrong{}) {
			t.Fatalf("%d: %v", seed, w)
		}
		found(t, p, table)
		name := p.Decls[seed%len(p.Decls)].Name
		other, w := New(parsed(t, renamed(t, text, name, "other")))
		if w != (tree.Wrong{}) || other.Find("other") != table.Find(name) || other.Find(name) != (Entry{}) {
			t.Fatalf("%d: renamed %s", seed, name)
		}
		if w := Check(parsed(t, renamed(t, text, name, "v0")+"w = 1;")); w.Err != api.ErrScope {
			t.Fatalf("%d: %v", seed, w)
		}
		more := tree.Copy(p)
		more.Decls = append(more.Decls, tree.Decl{Name: "more"}, tree.Decl{Name: "most", Places: 4})
		behind, w := New(more)
		if w != (tree.Wrong{}) || behind.Find("more") != (Entry{Kind: KVar, Slot: table.Vars()}) {
			t.Fatalf("%d: %v", seed, w)
		}
		for _, n := range append(table.Names(), "nobody") {
			if table.Find(n) != behind.Find(n) {
				t.Fatalf("%d: %s", seed, n)
			}
		}
		for at := range p.Body {
			q := tree.Copy(p)
			q.Body = append(q.Body[:at:at], append([]tree.Stmt{{Op: tree.SIf, Exprs: []tree.Expr{{Op: tree.XName, Name: "gone", Line: 99, Column: 9}}}}, q.Body[at:]...)...)
			if w := Check(q); w != (tree.Wrong{Err: api.ErrScope, Line: 99, Column: 9}) {
				t.Fatalf("%d: %v", seed, w)
			}
		}
	}
}

func found(t *testing.T, p tree.Program, table *Table) {
	slots, numbers, cells := map[int]int{}, map[int]int{}, map[int]int{}
	for _, d := range p.Decls {
		e := table.Find(d.Name)
		if e.Kind == KVar {
			slots[e.Slot]++
		} else {
			numbers[e.Slot]++
			for i := range e.Places {
				cells[e.Base+i]++
			}
		}
		if (e.Kind == KArray) != (d.Places > 0) || e.Places != d.Places {
			t.Fatalf("%v: %v", d, e)
		}
	}
	total := 0
	for i, n := range table.Arrays() {
		total += n
		if numbers[i] != 1 {
			t.Fatalf("array %d", i)
		}
	}
	for i := range table.Vars() {
		if slots[i] != 1 {
			t.Fatalf("slot %d", i)
		}
	}
	for i := range total {
		if cells[i] != 1 {
			t.Fatalf("place %d", i)
		}
	}
	if len(slots) != table.Vars() || len(cells) != total {
		t.Fatalf("%v %v", slots, cells)
	}
}
