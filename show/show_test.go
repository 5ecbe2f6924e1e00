package show

import (
	"strings"
	"testing"

	"dispatcher/api"
	"dispatcher/sample"
	"dispatcher/scan"
	"dispatcher/tree"
)

func parsed(t *testing.T, s string) tree.Program {
	t.Helper()
	l, _, _, e := scan.Scan([]byte(s))
	p, w := tree.Parse(l)
	if e != api.OK || w != (tree.Wrong{}) {
		t.Fatalf("%q: %d %v", s, e, w)
	}
	return p
}

// TestStrength: P3.1.
func TestStrength(t *testing.T) {
	want := []int{5, 5, 5, 5, 5, 5, 5, 5, 4, 4, 4, 3, 3, 2, 2, 2, 2, 2, 2, 1, 0, 5, 5}
	for op, w := range want {
		if Strength(uint8(op)) != w {
			t.Errorf("%d: %d", op, Strength(uint8(op)))
		}
	}
	if Strength(255) != 5 {
		t.Errorf("255")
	}
}

// TestExpr: P3.2: expressions.
func TestExpr(t *testing.T) {
	for s, want := range map[string]string{
		"(1+2)*3-(4-5)": "(1 + 2) * 3 - (4 - 5)", "-(-1)<(2<3)": "--1 < (2 < 3)", "(1<2)<3": "(1 < 2) < 3", "1<2==(3>4)": "", "-(1+2)": "-(1 + 2)", "!(!x)": "!!x", "-(x[(1+2)])": "-x[1 + 2]",
		"(1||2)&&(3&&4)": "(1 || 2) && (3 && 4)", "(1&&2)&&3||(4||5)": "1 && 2 && 3 || (4 || 5)", "(1*2)/(3*4)%5": "1 * 2 / (3 * 4) % 5", "(1-2)+3": "1 - 2 + 3", "row[(row[0])]": "row[row[0]]",
		"any+size*(peer)": "any + size * peer", "(1+2)<(3-4)": "1 + 2 < 3 - 4", "(1<=2)!=(3>=4)": "(1 <= 2) != (3 >= 4)", "999999999999999999": "999999999999999999", "(-1)*(!2)": "-1 * !2",
	} {
		if want == "" {
			continue
		}
		got, e := Expr(parsed(t, "assert "+s+";").Body[0].Exprs[0])
		if got != want || e != api.OK {
			t.Errorf("%s: %q %d", s, got, e)
		}
	}
	for i, e := range []tree.Expr{{}, {Op: tree.XNum, Num: -1}, {Op: tree.XAdd}, {Op: 77}, deepOnes(32)} {
		if s, err := Expr(e); s != "" || err != api.ErrArg {
			t.Errorf("%d: %q %d", i, s, err)
		}
	}
}

// deepOnes tells a full tree of sums, that share their sides: it is as deep as is told, and one more.
func deepOnes(deep int) tree.Expr {
	e := tree.Expr{Op: tree.XNum, Num: 1}
	for range deep {
		e = tree.Expr{Op: tree.XAdd, Args: []tree.Expr{e, e}}
	}
	return e
}

// TestLong: P3.2: ErrLong, P3.3 of such ones.
func TestLong(t *testing.T) {
	if s, e := Expr(deepOnes(20)); s != "" || e != api.ErrLong {
		t.Errorf("%d %d", len(s), e)
	}
	one := parsed(t, "x = 1;").Body[0]
	for _, n := range []int{2857, 2858} {
		p := tree.Program{}
		for range n {
			p.Body = append(p.Body, one)
		}
		s, e := Program(p)
		if n*7 > api.MaxText && (s != "" || e != api.ErrLong) || n*7 <= api.MaxText && (len(s) != n*7 || e != api.OK) || Lines(p) != n {
			t.Errorf("%d: %d %d", n, len(s), e)
		}
	}
	p := tree.Program{Body: []tree.Stmt{one, one}}
	p.Body[1].Name = "xy"
	for range 2855 {
		p.Body = append(p.Body, one)
	}
	if s, e := Program(p); len(s) != api.MaxText || e != api.OK {
		t.Errorf("just so long: %d %d", len(s), e)
	}
}

// TestProgram: P3.2: programs, P3.3.
func TestProgram(t *testing.T) {
	s, e := Program(parsed(t, `int x;int a[3];if x{stop;}else{} if !x{}else{x=1;a[x]=(2);}while(x){if 1{}}for x<3{}for x<size{reduce(0,1,(x),max);}
allreduce(0,-1,sum);waitall(1,2);barrier(0);assert(1);`))
	want := `int x;
int a[3];
if x {
  stop;
}
if !x {
} else {
  x = 1;
  a[x] = 2;
}
while x {
  if 1 {
  }
}
for x < 3 {
}
for x < size {
  reduce(0, 1, x, max);
}
allreduce(0, -1, sum);
waitall(1, 2);
barrier(0);
assert 1;
`
	if s != want || e != api.OK {
		t.Errorf("%s %d", s, e)
	}
	if s, e := Program(tree.Program{}); s != "" || e != api.OK || Lines(tree.Program{}) != 0 {
		t.Errorf("%q %d", s, e)
	}
	bad := tree.Program{Decls: []tree.Decl{{Name: "x"}}, Body: []tree.Stmt{{}}}
	if s, e := Program(bad); s != "" || e != api.ErrArg || Lines(bad) != 0 {
		t.Errorf("%q %d", s, e)
	}
	for kind := api.CkSend; kind <= api.CkFree; kind++ {
		n, _ := tree.Args(kind)
		one := tree.Stmt{Op: tree.SCall, Kind: kind, Exprs: make([]tree.Expr, n)}
		for i := range one.Exprs {
			one.Exprs[i].Op = tree.XNum
		}
		s, e := Program(tree.Program{Body: []tree.Stmt{one}})
		word, _, _ := strings.Cut(s, "(")
		if e != api.OK || tree.Call(word) != kind {
			t.Errorf("%d: %q", kind, s)
		}
	}
}

// TestMany: P3.4, P3.5, P3.6.
func TestMany(t *testing.T) {
	for seed := range 300 {
		text := sample.Program(seed, true)
		p := parsed(t, text)
		s, e := Program(p)
		if e != api.OK {
			t.Fatalf("%d: %d", seed, e)
		}
		back := parsed(t, s)
		if !tree.Same(p, back, false) {
			t.Fatalf("%d: not there and back:\n%s", seed, s)
		}
		l, _, _, _ := scan.Scan([]byte(text))
		for _, other := range []string{s, scan.Text(l), strings.ReplaceAll(scan.Text(l), " ", " #\n")} {
			if again, _ := Program(parsed(t, other)); again != s {
				t.Fatalf("%d: another text of the same words", seed)
			}
		}
		lines := strings.SplitAfter(s, "\n")
		if lines[len(lines)-1] != "" || len(lines)-1 != Lines(p) {
			t.Fatalf("%d: %d lines, not %d", seed, len(lines)-1, Lines(p))
		}
		for _, x := range lines[:len(lines)-1] {
			if !strings.ContainsRune(";{}", rune(x[len(x)-2])) {
				t.Fatalf("%d: %q", seed, x)
			}
		}
	}
}
