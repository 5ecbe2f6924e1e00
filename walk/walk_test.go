package walk

import (
	"reflect"
	"testing"

	"dispatcher/api"
	"dispatcher/compile"
	"dispatcher/sample"
	"dispatcher/scan"
	"dispatcher/scope"
	"dispatcher/show"
	"dispatcher/tree"
	"dispatcher/vm"
)

func parsed(t *testing.T, s string) tree.Program {
	t.Helper()
	l, _, _, e := scan.Scan([]byte(s))
	p, w := tree.Parse(l)
	if e != api.OK || w != (tree.Wrong{}) {
		t.Fatalf("%q: %d %v", s, e, w)
	}
	return p
}

func made(t *testing.T, s string) *Walker {
	t.Helper()
	w, e := New(parsed(t, s), 1, 3)
	if e != api.OK {
		t.Fatalf("%q: %d", s, e)
	}
	return w
}

// TestNew: P8.1.
func TestNew(t *testing.T) {
	p := parsed(t, "int x; x = 1;")
	for _, x := range []struct {
		rank, size int
		e          api.Errno
	}{{0, 1, 0}, {63, 64, 0}, {0, 0, api.ErrArg}, {0, 65, api.ErrArg}, {-1, 3, api.ErrArg}, {3, 3, api.ErrArg}} {
		if w, e := New(p, x.rank, x.size); e != x.e || (w == nil) != (e != api.OK) {
			t.Errorf("%v: %d", x, e)
		}
	}
	for _, s := range []string{"x = 1;", "int x; x[0] = 1;"} {
		if w, e := New(parsed(t, s), 0, 1); w != nil || e != api.ErrArg {
			t.Errorf("%s: %d", s, e)
		}
	}
	if w, e := New(tree.Program{Body: []tree.Stmt{{}}}, 0, 1); w != nil || e != api.ErrArg {
		t.Errorf("%d", e)
	}
	w, _ := New(p, 0, 1)
	p.Body[0].Exprs[0].Num = 9
	w.Run(9)
	if n, ok := w.Var("x"); n != 1 || !ok {
		t.Errorf("the tree is kept: %d", n)
	}
}

// TestSteps: P8.2: which steps there are.
func TestSteps(t *testing.T) {
	for s, want := range map[string]int{
		"": 0, "int x; x = 1;": 1, "stop; stop;": 1, "if 1 { }": 1, "if 1 { stop; }": 2, "if 0 { stop; } else { }": 1, "for x < 1 { }": 2, "for x < 3 { y = 1; }": 7, "for x < size { }": 4, "while 0 { }": 1, "while x < 2 { x = x + 1; }": 5,
		"assert 1; assert 0; stop;": 2, "y = 1 / 0; y = 2;": 1, "if 0 { } else { y = 1; y = 2; } y = 3;": 4,
	} {
		if s != "int x; x = 1;" {
			s = "int x; int y; " + s
		}
		for steps := range want {
			if out, used := made(t, s).Run(steps); !reflect.DeepEqual(out, vm.Out{}) || used != steps {
				t.Errorf("%s: %d: %v %d", s, steps, out, used)
			}
		}
		w := made(t, s)
		out, used := w.Run(want)
		if out.Kind == vm.OutMore || used != want {
			t.Errorf("%s: %v %d", s, out, used)
		}
		if again, used := w.Run(9); used != 0 || !reflect.DeepEqual(out, again) || w.Give(api.Result{}) != api.ErrArg {
			t.Errorf("%s: what has ended is changed", s)
		}
	}
	w := made(t, "int x; x = 1; if x { x = x + 1; barrier(x); }")
	if out, used := w.Run(3); out.Kind != vm.OutMore || used != 3 {
		t.Errorf("%v %d", out, used)
	}
	if n, _ := w.Var("x"); n != 2 {
		t.Errorf("%d", n)
	}
	call := vm.Out{Kind: vm.OutCall, Call: api.Call{Kind: api.CkBarrier, Comm: 2}}
	if out, used := w.Run(1); !reflect.DeepEqual(out, call) || used != 1 {
		t.Errorf("%v %d", out, used)
	}
	if out, used := w.Run(5); !reflect.DeepEqual(out, call) || used != 0 {
		t.Errorf("%v %d", out, used)
	}
}

// TestEnds: P8.2: how it ends, in which order things are asked.
func TestEnds(t *testing.T) {
	for s, want := range map[string]vm.Out{
		"assert 0;": {Kind: vm.OutFailed}, "a[9] = 1 / 0;": {Kind: vm.OutFault, Fault: api.FtDiv}, "a[9] = 1;": {Kind: vm.OutFault, Fault: api.FtIndex}, "a[1 / 0] = row[0];": {Kind: vm.OutFault, Fault: api.FtDiv}, "a[row[0]] = 1 / 0;": {Kind: vm.OutFault, Fault: api.FtIndex},
		"a[-1] = 1;": {Kind: vm.OutFault, Fault: api.FtIndex}, "x = a[2];": {Kind: vm.OutFault, Fault: api.FtIndex}, "x = row[0] + 1 / 0;": {Kind: vm.OutFault, Fault: api.FtIndex}, "x = 1 / 0 + row[0];": {Kind: vm.OutFault, Fault: api.FtDiv}, "x = 0 && 1 / 0 || 1 || row[0];": {Kind: vm.OutDone},
		"x = 1 && 1 / 0;": {Kind: vm.OutFault, Fault: api.FtDiv}, "x = 0 || 1 % 0;": {Kind: vm.OutFault, Fault: api.FtDiv}, "x = 1 / 0 || 1;": {Kind: vm.OutFault, Fault: api.FtDiv}, "send(0, row[1], 1 / 0, 0, 0);": {Kind: vm.OutFault, Fault: api.FtIndex}, "while 1 { stop; }": {Kind: vm.OutDone},
		"for x < 3 { x = 7; }": {Kind: vm.OutDone}, "if 1 / 0 { }": {Kind: vm.OutFault, Fault: api.FtDiv}, "while row[0] { }": {Kind: vm.OutFault, Fault: api.FtIndex}, "waitall(1, x, rank);": {Kind: vm.OutCall, Call: api.Call{Kind: api.CkWaitall, Reqs: []int{1, 0, 1}}},
	} {
		w := made(t, "int x; int a[2]; "+s)
		if out, _ := w.Run(99); !reflect.DeepEqual(out, want) {
			t.Errorf("%s: %v", s, out)
		}
	}
}

// TestGive: P8.3, P8.4.
func TestGive(t *testing.T) {
	w := made(t, "int x; int a[2]; x = row[0]; barrier(0);")
	if out, _ := w.Run(9); out.Fault != api.FtIndex {
		t.Errorf("the row is empty at first: %v", out)
	}
	w = made(t, "int x; int a[2]; barrier(0); a[1] = row[1] * 1000 + value * 100 + tag * 10 + flag; x = index * 1000 + req * 100 + comm * 10 + peer;")
	if w.Give(api.Result{}) != api.ErrArg {
		t.Errorf("it doesn't wait")
	}
	w.Run(9)
	row := []int64{1, 2}
	if e := w.Give(api.Result{Flag: true, Value: 3, Peer: 4, Tag: 5, Req: 6, Index: 7, Comm: 8, Row: row}); e != api.OK {
		t.Errorf("%d", e)
	}
	row[1] = 9
	if out, used := w.Run(0); out.Kind != vm.OutMore || used != 0 || w.Give(api.Result{}) != api.ErrArg {
		t.Errorf("%v %d", out, used)
	}
	w.Run(9)
	for _, x := range []struct {
		name  string
		place int
		n     int64
		ok    bool
	}{{"x", -1, 7684, true}, {"a", 1, 2351, true}, {"a", 0, 0, true}, {"a", 2, 0, false}, {"a", -2, 0, false}, {"x", 0, 0, false}, {"a", -1, 0, false}, {"y", 0, 0, false}, {"y", -1, 0, false}} {
		n, ok := w.Cell(x.name, x.place)
		if x.place == -1 {
			n, ok = w.Var(x.name)
		}
		if n != x.n || ok != x.ok {
			t.Errorf("%v: %d %v", x, n, ok)
		}
	}
	for _, w := range []*Walker{nil, {}} {
		out, used := w.Run(9)
		n, ok := w.Var("x")
		m, ok2 := w.Cell("x", 0)
		if !reflect.DeepEqual(out, vm.Out{Kind: vm.OutDone}) || used != 0 || w.Give(api.Result{}) != api.ErrNil || n != 0 || ok || m != 0 || ok2 {
			t.Errorf("of nobody")
		}
	}
}

// TestValue: P8.5.
func TestValue(t *testing.T) {
	last := api.Result{Value: 11, Row: []int64{5, 6}}
	for _, x := range []struct {
		s     string
		n     int64
		fault uint8
	}{{"7 / (2 - 2)", 0, api.FtDiv}, {"row[1] + value", 17, 0}, {"row[2]", 0, api.FtIndex}, {"rank * 100 + size", 4900, 0}, {"-any", 1, 0}, {"x", 0, api.FtIndex}, {"0 && x", 0, api.FtIndex}, {"x[0]", 0, api.FtIndex}, {"(1 / 0) + x", 0, api.FtIndex}, {"1 || 1 / 0", 1, 0}, {"0 || row[7]", 0, api.FtIndex}, {"2 && 3", 1, 0}, {"(1 / 0) || 1", 0, api.FtDiv}, {"1 && 1 % 0", 0, api.FtDiv}} {
		n, fault := Value(parsed(t, "assert "+x.s+";").Body[0].Exprs[0], 50, -100, last)
		if n != x.n || fault != x.fault {
			t.Errorf("%s: %d %d", x.s, n, fault)
		}
	}
	for _, e := range []tree.Expr{{}, {Op: tree.XNum, Num: -1}, {Op: tree.XNeg}, {Op: 99}} {
		if n, fault := Value(e, 0, 1, last); n != 0 || fault != api.FtIndex {
			t.Errorf("%v: %d %d", e, n, fault)
		}
	}
}

func told(d *sample.Dice) api.Result {
	x := api.Result{Flag: d.Throw(2) == 0, Value: int64(d.Throw(5) - 2), Peer: d.Throw(3), Tag: d.Throw(3), Req: d.Throw(3), Index: d.Throw(3) - 1, Comm: d.Throw(3)}
	for range d.Throw(3) {
		x.Row = append(x.Row, int64(d.Throw(4)))
	}
	return x
}

// alike asks whether a walker and a rank have the same variables and arrays.
func alike(p tree.Program, w *Walker, r *vm.Rank) bool {
	table, _ := scope.New(p)
	m := r.Memory()
	cells := m[4+int(m[3])+table.Vars():]
	for _, name := range table.Names() {
		e := table.Find(name)
		if n, ok := w.Var(name); ok != (e.Kind == scope.KVar) || ok && n != r.Var(e.Slot) {
			return false
		}
		for i := range e.Places {
			if n, ok := w.Cell(name, i); !ok || n != cells[e.Base+i] {
				return false
			}
		}
	}
	return true
}

// TestMany: P8.6, P8.7, P8.8 of many programs.
func TestMany(t *testing.T) {
	ends := map[uint8]int{}
	for seed := range 600 {
		p := parsed(t, sample.Program(seed, true))
		own, _ := show.Program(p)
		c, _ := compile.Compile(p)
		w, _ := New(p, 1, 3)
		again, _ := New(parsed(t, own), 1, 3)
		pieces, _ := New(p, 1, 3)
		r, _ := vm.New(c, 1, 3)
		d := sample.Seeded(seed)
		for range 30 {
			out, used := w.Run(20000)
			ran, _ := r.Run(2000000)
			same, used2 := again.Run(20000)
			total := 0
			for _, part := range []int{used / 3, used / 2, used} {
				_, n := pieces.Run(min(part, used-total))
				total += n
			}
			last, _ := pieces.Run(0)
			if !reflect.DeepEqual(out, same) || used != used2 || total != used || !reflect.DeepEqual(out, last) {
				t.Fatalf("%d: %v %v %v, %d %d %d", seed, out, same, last, used, used2, total)
			}
			if !reflect.DeepEqual(out, ran) || out.Kind != vm.OutMore && !alike(p, w, r) {
				t.Fatalf("%d: %v %v", seed, out, ran)
			}
			if ends[out.Kind]++; out.Kind != vm.OutCall {
				break
			}
			x := told(d)
			w.Give(x)
			again.Give(x)
			pieces.Give(x)
			r.Give(x)
		}
	}
	for kind := vm.OutMore; kind <= vm.OutFault; kind++ {
		if ends[kind] == 0 && kind != vm.OutFailed {
			t.Errorf("no program came to %d", kind)
		}
	}
}
