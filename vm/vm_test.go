package vm

import (
	"math"
	"reflect"
	"testing"

	"dispatcher/api"
	"dispatcher/code"
	"dispatcher/compile"
	"dispatcher/sample"
	"dispatcher/scan"
	"dispatcher/tree"
)

func compiled(t *testing.T, s string) code.Program {
	t.Helper()
	l, _, _, e := scan.Scan([]byte(s))
	p, w := tree.Parse(l)
	c, w2 := compile.Compile(p)
	if e != api.OK || w != (tree.Wrong{}) || w2 != (tree.Wrong{}) {
		t.Fatalf("%q: %d %v %v", s, e, w, w2)
	}
	return c
}

func made(t *testing.T, s string, rank, size int) *Rank {
	t.Helper()
	r, e := New(compiled(t, s), rank, size)
	if e != api.OK {
		t.Fatalf("%q: %d", s, e)
	}
	return r
}

// TestNew: P7.1.
func TestNew(t *testing.T) {
	p := compiled(t, "int x; x = 1; x = 2;")
	for _, x := range []struct {
		rank, size int
		e          api.Errno
	}{{0, 1, 0}, {63, 64, 0}, {0, 0, api.ErrArg}, {0, 65, api.ErrArg}, {-1, 3, api.ErrArg}, {3, 3, api.ErrArg}, {0, -1, api.ErrArg}} {
		if r, e := New(p, x.rank, x.size); e != x.e || (r == nil) != (e != api.OK) {
			t.Errorf("%v: %d", x, e)
		}
	}
	if r, e := New(code.Program{}, 0, 0); r != nil || e != api.ErrCode {
		t.Errorf("%d", e)
	}
	r, _ := New(p, 0, 1)
	p.Code[2].N = 9
	if r.Run(9); r.Var(0) != 2 {
		t.Errorf("the program is kept")
	}
}

// TestValues: P7.2: what instructions do.
func TestValues(t *testing.T) {
	for s, want := range map[string]int64{
		"7/2": 3, "-7/2": -3, "7%-2": 1, "-7%2": -1, "1-2-3": -4, "2*3": 6, "1<2": 1, "2<2": 0, "2<=2": 1, "3<=2": 0, "3>2": 1, "2>2": 0, "2>=2": 1, "1>=2": 0, "1==1": 1, "1==2": 0, "1!=2": 1, "2!=2": 0,
		"!5": 0, "!0": 1, "--4": 4, "5&&0": 0, "5&&7": 1, "0&&(1/0)": 0, "5||(1/0)": 1, "0||0": 0, "0||9": 1, "rank": 2, "size": 5, "any": -1, "value+peer+tag+flag+index+req+comm": 0,
		"999999999999999999*999999999999999999": -7527149226598858751,
	} {
		r := made(t, "int x; x = "+s+";", 2, 5)
		if out, _ := r.Run(100); !reflect.DeepEqual(out, Out{Kind: OutDone}) || r.Var(0) != want {
			t.Errorf("%s: %v %d", s, out, r.Var(0))
		}
	}
	least := code.Instr{Op: code.CoNum, N: math.MinInt64}
	minus := code.Instr{Op: code.CoNum, N: -1}
	for op, want := range map[uint8]int64{code.CoDiv: math.MinInt64, code.CoMod: 0, code.CoMul: math.MinInt64, code.CoAdd: math.MaxInt64, code.CoSub: math.MinInt64 + 1, code.CoLess: 1} {
		r, e := New(code.Program{Code: []code.Instr{least, minus, {Op: op}, {Op: code.CoSet}, {Op: code.CoStop}}, Vars: 1}, 0, 1)
		if e != api.OK {
			t.Fatal(e)
		}
		if r.Run(9); r.Var(0) != want {
			t.Errorf("%d: %d", op, r.Var(0))
		}
	}
	r, _ := New(code.Program{Code: []code.Instr{least, {Op: code.CoNeg}, {Op: code.CoDup}, {Op: code.CoTruth}, {Op: code.CoAdd}, {Op: code.CoSet}, {Op: code.CoStop}}, Vars: 1}, 0, 1)
	if r.Run(9); r.Var(0) != math.MinInt64+1 {
		t.Errorf("%d", r.Var(0))
	}
}

// TestEnds: P7.2: how it ends; a fault's place and stack.
func TestEnds(t *testing.T) {
	for _, x := range []struct {
		s      string
		out    Out
		used   int
		memory []int64
	}{
		{"", Out{Kind: OutDone}, 1, []int64{3, 0, 1, 0}},
		{"assert 0;", Out{Kind: OutFailed}, 2, []int64{4, 0, 2, 0}},
		{"assert 5; stop; assert 0;", Out{Kind: OutDone}, 3, []int64{3, 0, 3, 0}},
		{"assert 7 + 1 / 0;", Out{Kind: OutFault, Fault: api.FtDiv}, 4, []int64{5, 1, 4, 1, 7}},
		{"assert 7 % (1 - 1);", Out{Kind: OutFault, Fault: api.FtDiv}, 5, []int64{5, 1, 5, 0}},
		{"assert 4 + row[0];", Out{Kind: OutFault, Fault: api.FtIndex}, 3, []int64{5, 2, 3, 1, 4}},
		{"int a[2]; int b[3]; a[1] = 8; b[2] = 9; assert b[3];", Out{Kind: OutFault, Fault: api.FtIndex}, 8, []int64{5, 2, 8, 0, 0, 8, 0, 0, 9}},
		{"int a[2]; int b[3]; a[2] = 8;", Out{Kind: OutFault, Fault: api.FtIndex}, 3, []int64{5, 2, 3, 0, 0, 0, 0, 0, 0}},
		{"int a[2]; a[-1] = 8;", Out{Kind: OutFault, Fault: api.FtIndex}, 4, []int64{5, 2, 4, 0, 0, 0}},
		{"int a[2]; assert a[999999999999999999 * 16];", Out{Kind: OutFault, Fault: api.FtIndex}, 4, []int64{5, 2, 4, 0, 0, 0}},
	} {
		r := made(t, x.s, 0, 1)
		out, used := r.Run(100)
		if !reflect.DeepEqual(out, x.out) || used != x.used {
			t.Errorf("%s: %v %d", x.s, out, used)
		}
		want := append(x.memory, 0, 0, 0, 0, 0, 0, 0, 0)
		if !reflect.DeepEqual(r.Memory(), want) {
			t.Errorf("%s: %v", x.s, r.Memory())
		}
		again, used := r.Run(100)
		if !reflect.DeepEqual(again, x.out) || used != 0 || r.Give(api.Result{}) != api.ErrArg || !reflect.DeepEqual(r.Memory(), want) {
			t.Errorf("%s: what has ended is changed", x.s)
		}
	}
}

// TestCalls: P7.2: which call.
func TestCalls(t *testing.T) {
	for s, want := range map[string]api.Call{
		"send(1,2,3,4,5);": {Kind: api.CkSend, Comm: 1, Peer: 2, Tag: 3, Value: 4, Size: 5}, "ssend(1,2,3,4,5);": {Kind: api.CkSsend, Comm: 1, Peer: 2, Tag: 3, Value: 4, Size: 5},
		"bsend(1,2,3,4,5);": {Kind: api.CkBsend, Comm: 1, Peer: 2, Tag: 3, Value: 4, Size: 5}, "isend(1,2,3,4,5);": {Kind: api.CkIsend, Comm: 1, Peer: 2, Tag: 3, Value: 4, Size: 5}, "issend(1,2,3,4,5);": {Kind: api.CkIssend, Comm: 1, Peer: 2, Tag: 3, Value: 4, Size: 5},
		"recv(1,any,3);": {Kind: api.CkRecv, Comm: 1, Peer: -1, Tag: 3}, "irecv(1,2,any);": {Kind: api.CkIrecv, Comm: 1, Peer: 2, Tag: -1}, "probe(1,2,3);": {Kind: api.CkProbe, Comm: 1, Peer: 2, Tag: 3}, "iprobe(1,2,3);": {Kind: api.CkIprobe, Comm: 1, Peer: 2, Tag: 3},
		"wait(4);": {Kind: api.CkWait, Reqs: []int{4}}, "test(4);": {Kind: api.CkTest, Reqs: []int{4}}, "waitall(4,5,6);": {Kind: api.CkWaitall, Reqs: []int{4, 5, 6}}, "waitany(6,5);": {Kind: api.CkWaitany, Reqs: []int{6, 5}}, "testany(1,2,3,4,5,6,7,8);": {Kind: api.CkTestany, Reqs: []int{1, 2, 3, 4, 5, 6, 7, 8}},
		"barrier(1);": {Kind: api.CkBarrier, Comm: 1}, "dup(1);": {Kind: api.CkDup, Comm: 1}, "free(1);": {Kind: api.CkFree, Comm: 1}, "bcast(1,2,3);": {Kind: api.CkBcast, Comm: 1, Root: 2, Value: 3}, "gather(1,2,3);": {Kind: api.CkGather, Comm: 1, Root: 2, Value: 3},
		"reduce(1,2,3,max);": {Kind: api.CkReduce, Comm: 1, Root: 2, Value: 3, Op: api.RdMax}, "allreduce(1,2,min);": {Kind: api.CkAllreduce, Comm: 1, Value: 2, Op: api.RdMin}, "split(1,2,3);": {Kind: api.CkSplit, Comm: 1, Color: 2, Key: 3},
		"int x; x = 7 / (rank - 1); barrier(x);": {Kind: api.CkBarrier, Comm: -7},
	} {
		r := made(t, s, 0, 2)
		out, used := r.Run(1000)
		if !reflect.DeepEqual(out, Out{Kind: OutCall, Call: want}) || used == 0 {
			t.Errorf("%s: %v", s, out)
		}
		if len(out.Call.Reqs) > 0 {
			out.Call.Reqs[0] = 99
		}
		before := r.Memory()
		again, used := r.Run(1000)
		if !reflect.DeepEqual(again, Out{Kind: OutCall, Call: want}) || used != 0 || !reflect.DeepEqual(r.Memory(), before) {
			t.Errorf("%s: %v %d", s, again, used)
		}
		c := want
		end := []int64{int64(c.Kind), int64(c.Comm), int64(c.Peer), int64(c.Tag), c.Value, int64(c.Size), int64(c.Root), int64(c.Op), int64(c.Color), int64(c.Key), int64(len(c.Reqs))}
		for _, n := range c.Reqs {
			end = append(end, int64(n))
		}
		if before[0] != 1 || !reflect.DeepEqual(before[len(before)-len(end):], end) {
			t.Errorf("%s: %v", s, before)
		}
	}
	out, used := made(t, "int x; x = 7 / (rank - 1); barrier(x);", 0, 2).Run(8)
	if out.Kind != OutCall || used != 8 {
		t.Errorf("%v %d", out, used)
	}
	out, _ = made(t, "int x; x = 7 / (rank - 1); barrier(x);", 1, 2).Run(8)
	if !reflect.DeepEqual(out, Out{Kind: OutFault, Fault: api.FtDiv}) {
		t.Errorf("%v", out)
	}
}

// TestGive: P7.3.
func TestGive(t *testing.T) {
	s := "int x[9]; barrier(0); x[0] = value; x[1] = peer; x[2] = tag; x[3] = flag; x[4] = index; x[5] = req; x[6] = comm; x[7] = row[1]; barrier(7);"
	r := made(t, s, 0, 1)
	if e := r.Give(api.Result{}); e != api.ErrArg {
		t.Errorf("%d", e)
	}
	r.Run(100)
	row := []int64{8, 9}
	x := api.Result{Flag: true, Value: 11, Peer: 12, Tag: 13, Req: 15, Index: 14, Comm: 16, Row: row}
	if e := r.Give(x); e != api.OK {
		t.Errorf("%d", e)
	}
	row[1] = 77
	if out, used := r.Run(0); !reflect.DeepEqual(out, Out{}) || used != 0 {
		t.Errorf("%v %d", out, used)
	}
	if e := r.Give(x); e != api.ErrArg {
		t.Errorf("%d", e)
	}
	out, _ := r.Run(100)
	m := r.Memory()
	want := []int64{1, 0, 29, 0, 11, 12, 13, 1, 14, 15, 16, 9, 0, 1, 11, 12, 13, 15, 14, 16, 2, 8, 9, 15, 7, 0, 0, 0, 0, 0, 0, 0, 0, 0}
	if out.Call.Comm != 7 || !reflect.DeepEqual(m, want) {
		t.Errorf("%v\n%v\n%v", out, m, want)
	}
	r = made(t, "recv(0, any, 3); assert value == 5;", 0, 2)
	r.Run(99)
	r.Give(api.Result{Value: 4})
	if out, _ := r.Run(99); out.Kind != OutFailed {
		t.Errorf("%v", out)
	}
	for _, r := range []*Rank{nil, {}} {
		out, used := r.Run(9)
		if !reflect.DeepEqual(out, Out{Kind: OutDone}) || used != 0 || r.Give(api.Result{}) != api.ErrNil || r.Copy() != nil || r.Memory() != nil || r.Var(0) != 0 {
			t.Errorf("of nobody: %v %d", out, used)
		}
	}
}

// TestSteps: P7.2: at most so many.
func TestSteps(t *testing.T) {
	r := made(t, "int x; while 1 { x = x + 1; }", 0, 1)
	for _, steps := range []int{0, -5, 7, 1, 1000} {
		out, used := r.Run(steps)
		if !reflect.DeepEqual(out, Out{Kind: OutMore}) || used != max(steps, 0) {
			t.Errorf("%d: %v %d", steps, out, used)
		}
	}
	if r.Var(0) != 144 || r.Var(1) != 0 || r.Var(-1) != 0 {
		t.Errorf("%d", r.Var(0))
	}
}

// told tells a result of dice.
func told(d *sample.Dice) api.Result {
	x := api.Result{Flag: d.Throw(2) == 0, Value: int64(d.Throw(5) - 2), Peer: d.Throw(3), Tag: d.Throw(3), Req: d.Throw(3), Index: d.Throw(3) - 1, Comm: d.Throw(3)}
	for range d.Throw(3) {
		x.Row = append(x.Row, int64(d.Throw(4)))
	}
	return x
}

// TestMany: P7.4, P7.5, P7.6, P7.7 of many programs.
func TestMany(t *testing.T) {
	for seed := range 300 {
		p := compiled(t, sample.Program(seed, true))
		d := sample.Seeded(seed)
		r, _ := New(p, 1, 3)
		whole, _ := New(p, 1, 3)
		for range 12 {
			pieces := d.Throw(20)
			total := 0
			var out Out
			for range 3 {
				var used int
				out, used = r.Run(pieces)
				total += used
			}
			all, used := whole.Run(3 * pieces)
			if !reflect.DeepEqual(out, all) || used != total || !reflect.DeepEqual(r.Memory(), whole.Memory()) {
				t.Fatalf("%d: in pieces: %v %v", seed, out, all)
			}
			c := r.Copy()
			before := r.Memory()
			x := told(d)
			e := r.Give(x)
			r.Run(7)
			if !reflect.DeepEqual(c.Memory(), before) {
				t.Fatalf("%d: a copy is changed", seed)
			}
			behind := r.Memory()
			if e2 := c.Give(x); e != e2 {
				t.Fatalf("%d: %d %d", seed, e, e2)
			}
			o, u := c.Run(7)
			o2, u2 := whole.Copy().Run(7)
			if e != api.OK && (!reflect.DeepEqual(o, o2) || u != u2) || !reflect.DeepEqual(c.Memory(), behind) || !reflect.DeepEqual(r.Memory(), behind) {
				t.Fatalf("%d: not alike", seed)
			}
			whole = r.Copy()
		}
	}
}
