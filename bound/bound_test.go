package bound

import (
	"strings"
	"testing"

	"dispatcher/api"
	"dispatcher/compile"
	"dispatcher/sample"
	"dispatcher/scan"
	"dispatcher/tree"
	"dispatcher/vm"
)

func parsed(t *testing.T, s string) tree.Program {
	t.Helper()
	l, _, _, e := scan.Scan([]byte(s))
	p, w := tree.Parse(l)
	if e != api.OK || w != (tree.Wrong{}) {
		t.Fatalf("%q: %d %v", s, e, w)
	}
	return p
}

// TestCounted: P9.1.
func TestCounted(t *testing.T) {
	for s, want := range map[string]bool{"": true, "stop;": true, "for x < 3 { if 1 { } else { stop; } }": true, "while 0 { }": false, "if 1 { while 1 { } }": false, "if 1 { } else { while 1 { } }": false, "for x < 3 { while 1 { } }": false} {
		if Counted(parsed(t, s)) != want {
			t.Errorf("%s", s)
		}
	}
}

// TestDecides: P9.1.
func TestDecides(t *testing.T) {
	for s, want := range map[string]bool{
		"recv(0, any, 0);": true, "recv(0, 1, any);": false, "irecv(0, -1, 0);": true, "probe(0, rank, 0);": true, "probe(any, 3, 0);": false, "irecv(0, 0, 0);": false, "iprobe(0, 1, 0);": true, "iprobe(0, any, 0);": true, "recv(0, (1), 0);": false, "recv(0, 1 + 1, 0);": true,
		"waitany(1);": true, "test(1);": true, "testany(1, 2);": true, "wait(1);": false, "waitall(1);": false, "send(0, any, 0, 0, 0);": false, "bcast(0, any, 1);": false, "barrier(any);": false, "x = any;": false, "stop;": false,
	} {
		if Decides(parsed(t, s).Body[0]) != want {
			t.Errorf("%s", s)
		}
	}
	for _, x := range []struct {
		s    tree.Stmt
		want bool
	}{{tree.Stmt{Op: tree.SCall, Kind: api.CkRecv}, true}, {tree.Stmt{Op: tree.SCall, Kind: api.CkProbe, Exprs: make([]tree.Expr, 1)}, true}, {tree.Stmt{Op: tree.SCall, Kind: api.CkSend}, false}, {tree.Stmt{}, false}, {tree.Stmt{Op: tree.SSet, Kind: api.CkTest}, false}, {tree.Stmt{Op: tree.SCall, Kind: 99}, false}, {tree.Stmt{Op: tree.SCall, Kind: api.CkTest}, true}} {
		if Decides(x.s) != x.want {
			t.Errorf("%v", x.s)
		}
	}
}

// TestExpr: P9.1.
func TestExpr(t *testing.T) {
	for s, want := range map[string]int{"1": 1, "x": 1, "rank": 1, "a[1]": 2, "row[x]": 2, "-1": 2, "!!1": 3, "1 + 2": 3, "1 < 2 * 3": 5, "1 && 2": 5, "1 || x && 2": 9, "a[1 + 2] % 7": 6} {
		if n := Expr(parsed(t, "assert "+s+";").Body[0].Exprs[0]); n != want {
			t.Errorf("%s: %d", s, n)
		}
	}
	for _, e := range []tree.Expr{{}, {Op: tree.XNum, Num: -1}, {Op: tree.XAdd}, {Op: tree.XName, Name: "if"}} {
		if Expr(e) != 0 {
			t.Errorf("%v", e)
		}
	}
}

// TestOf: P9.2.
func TestOf(t *testing.T) {
	for s, want := range map[string]Bound{
		"": {1, 0, 0}, "x = 1 + 2; send(0, 1, 2, 3, 4);": {11, 1, 0}, "for x < 3 { recv(0, any, x); }": {46, 3, 3}, "for x < size { recv(0, any, x); }": {6 + 5*13 + 1, 5, 5}, "stop; x = 1;": {4, 0, 0}, "a[x] = 1;": {4, 0, 0}, "assert !x;": {4, 0, 0},
		"if x { }": {3, 0, 0}, "if x { x = 1; }": {5, 0, 0}, "if x { x = 1; } else { x = 1; }": {6, 0, 0}, "if x { } else { x = 1; }": {5, 0, 0}, "if x { } else { test(0); }": {5, 1, 1}, "if x { test(0); } else { wait(0); wait(1); }": {2 + 4 + 1, 2, 1},
		"for x < 2 { for x < 3 { } }": {6 + 2*(9+6+27) + 1, 0, 0}, "for x < 1000 { for x < 115 { } }": {0, 0, 0}, "for x < 1000 { for x < 110 { } }": {6 + 1000*(9+6+990) + 1, 0, 0},
	} {
		e := api.OK
		if want == (Bound{}) {
			e = api.ErrLimit
		}
		if b, err := Of(parsed(t, "int x; int a[2]; "+s), 5); b != want || e != err {
			t.Errorf("%s: %v %d", s, b, err)
		}
	}
	deep := strings.Repeat("for x < 1000 { ", 31) + "recv(0, any, 0);" + strings.Repeat(" }", 31)
	for _, x := range []struct {
		p     tree.Program
		ranks int
		e     api.Errno
	}{{parsed(t, "x = 1;"), 1, api.ErrArg}, {parsed(t, "stop;"), 0, api.ErrArg}, {parsed(t, "stop;"), 65, api.ErrArg}, {parsed(t, "stop;"), 64, 0}, {parsed(t, "while 1 { }"), 1, api.ErrLimit}, {parsed(t, "while 1 { x = 1; }"), 1, api.ErrArg}, {parsed(t, "while 1 { }"), 0, api.ErrArg},
		{tree.Program{Body: []tree.Stmt{{}}}, 1, api.ErrArg}, {parsed(t, "int x; "+deep), 1, api.ErrLimit}} {
		if b, e := Of(x.p, x.ranks); e != x.e || e != api.OK && b != (Bound{}) {
			t.Errorf("%v: %v %d", x.p, b, e)
		}
	}
}

// TestMost: P9.2: just MaxSteps steps may be, one more not.
func TestMost(t *testing.T) {
	p := parsed(t, "int x; for x < 1000 { for x < 114 { } } for x < 1000 { } assert 1; stop;")
	parts := p.Body
	p.Body = parts[:1]
	b, _ := Of(p, 1)
	left := api.MaxSteps - b.Steps
	for i, steps := range []int{9006, 2, 1} {
		for ; left >= steps; left -= steps {
			p.Body = append(p.Body[:len(p.Body):len(p.Body)], parts[i+1])
		}
	}
	if b, e := Of(p, 1); b.Steps != api.MaxSteps || e != api.OK {
		t.Errorf("%v %d", b, e)
	}
	p.Body = append(p.Body, parts[3])
	if b, e := Of(p, 1); b != (Bound{}) || e != api.ErrLimit {
		t.Errorf("%v %d", b, e)
	}
}

func told(d *sample.Dice) api.Result {
	x := api.Result{Flag: d.Throw(2) == 0, Value: int64(d.Throw(5) - 2), Peer: d.Throw(3), Tag: d.Throw(3), Req: d.Throw(3), Index: d.Throw(3) - 1, Comm: d.Throw(3)}
	for range d.Throw(3) {
		x.Row = append(x.Row, int64(d.Throw(4)))
	}
	return x
}

// made tells how many instructions, calls and decisions a rank does, and how it ends; whichever peer is a number.
func made(t *testing.T, p tree.Program, rank, size, seed int) (Bound, uint8) {
	c, _ := compile.Compile(p)
	r, e := vm.New(c, rank, size)
	if e != api.OK {
		t.Fatal(e)
	}
	d := sample.Seeded(seed)
	b := Bound{}
	for {
		out, used := r.Run(10000000)
		b.Steps += used
		if out.Kind != vm.OutCall {
			return b, out.Kind
		}
		b.Calls++
		kind := out.Call.Kind
		if (kind == api.CkRecv || kind == api.CkIrecv || kind == api.CkProbe) && out.Call.Peer == api.Any || kind == api.CkIprobe || kind == api.CkTest || kind == api.CkTestany || kind == api.CkWaitany {
			b.Decisions++
		}
		r.Give(told(d))
	}
}

func atMost(a, b Bound) bool {
	return a.Steps <= b.Steps && a.Calls <= b.Calls && a.Decisions <= b.Decisions
}

// TestMany: P9.3, P9.5 of many programs.
func TestMany(t *testing.T) {
	for seed := range 400 {
		p := parsed(t, sample.Program(seed, false))
		last := Bound{}
		for ranks := 1; ranks <= 4; ranks++ {
			b, e := Of(p, ranks)
			if e != api.OK || !Counted(p) || !atMost(last, b) {
				t.Fatalf("%d: %v %d", seed, b, e)
			}
			for again := range 3 {
				did, end := made(t, p, ranks-1, ranks, seed+again)
				if !atMost(did, b) || end == vm.OutMore {
					t.Fatalf("%d: %v of %v, %d", seed, did, b, end)
				}
			}
			last = b
		}
		twice := p
		twice.Body = append(append([]tree.Stmt{}, p.Body...), p.Body...)
		if b, e := Of(twice, 4); e != api.OK || b != (Bound{2*last.Steps - 1, 2 * last.Calls, 2 * last.Decisions}) {
			t.Fatalf("%d: %v", seed, b)
		}
		loop := p
		loop.Body = []tree.Stmt{{Op: tree.SFor, Name: "v0", Turns: 7, Body: p.Body}}
		if b, e := Of(loop, 4); e == api.OK && (b.Steps < 7*(last.Steps-1) || b.Calls != 7*last.Calls || b.Decisions != 7*last.Decisions) {
			t.Fatalf("%d: %v", seed, b)
		}
	}
}

// TestJust: P9.4.
func TestJust(t *testing.T) {
	for _, s := range []string{
		"", "int x; x = 1 + 2; barrier(0);", "int x; int y; for x < 5 { for y < size { recv(0, any, 0); x = 7; } test(0); }", "int a[3]; a[1] = -a[!2] + size * 0; assert 1;", "int x; for x < 1 { waitall(1, 2, x); } reduce(0, 1 + 2, rank, max);",
	} {
		p := parsed(t, s)
		b, e := Of(p, 3)
		did, end := made(t, p, 1, 3, 1)
		if e != api.OK || did != b || end != vm.OutDone {
			t.Errorf("%s: %v, %v %d", s, did, b, end)
		}
	}
}
