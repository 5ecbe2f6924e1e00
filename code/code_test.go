package code

import (
	"reflect"
	"strconv"
	"strings"
	"testing"

	"dispatcher/api"
	"dispatcher/sample"
)

// TestName: P5.1.
func TestName(t *testing.T) {
	want := strings.Fields("num get set at put row word neg not mul div mod add sub less lesseq more moreeq same other truth jump zero else pop dup assert call stop")
	for i, w := range want {
		if Name(uint8(i+1)) != w {
			t.Errorf("%d: %s", i+1, Name(uint8(i+1)))
		}
	}
	if len(want) != int(CoStop) || Name(0) != "" || Name(CoStop+1) != "" || Name(255) != "" {
		t.Errorf("names of none")
	}
}

func row(l ...any) (code []Instr) {
	for _, x := range l {
		switch y := x.(type) {
		case uint8:
			code = append(code, Instr{Op: y})
		case int:
			code[len(code)-1].N = int64(y)
		}
	}
	return code
}

// TestHeights: P5.2.
func TestHeights(t *testing.T) {
	call := func(kind uint8, args, op int) int { return int(kind) + 32*args + 1024*op }
	for i, x := range []struct {
		p    Program
		want []int
	}{
		{Program{Code: row(CoNum, 7, CoSet, 0, CoStop), Vars: 1}, []int{0, 1, 0}},
		{Program{Code: row(CoNum, 7, CoSet, 1, CoStop), Vars: 1}, nil},
		{Program{Code: row(CoNum, 7, CoSet, -1, CoStop), Vars: 1}, nil},
		{Program{Code: row(CoAdd, CoStop)}, nil},
		{Program{Code: row(CoJump, 0)}, nil},
		{Program{}, nil},
		{Program{Code: row(CoStop)}, []int{0}},
		{Program{Code: row(CoStop, 1)}, nil},
		{Program{Code: row(CoStop), Vars: 64}, []int{0}},
		{Program{Code: row(CoStop), Vars: 65}, nil},
		{Program{Code: row(CoStop), Vars: -1}, nil},
		{Program{Code: row(CoStop), Arrays: []int{999, 1}}, []int{0}},
		{Program{Code: row(CoStop), Arrays: []int{999, 2}}, nil},
		{Program{Code: row(CoStop), Arrays: []int{0}}, nil},
		{Program{Code: row(CoStop), Arrays: []int{1 << 62, 1 << 62, 1 << 62}}, nil},
		{Program{Code: row(CoNum, CoAt, 1, CoPop, CoStop), Arrays: []int{1}}, nil},
		{Program{Code: row(CoNum, CoAt, 0, CoNum, CoPut, 0, CoStop), Arrays: []int{1}}, []int{0, 1, 1, 2, 0}},
		{Program{Code: row(CoWord, 9, CoPop, CoStop)}, []int{0, 1, 0}},
		{Program{Code: row(CoWord, 10, CoPop, CoStop)}, nil},
		{Program{Code: row(CoNum, CoRow, 1, CoStop)}, nil},
		{Program{Code: row(CoNum, -7, CoRow, CoTruth, CoAssert, CoStop)}, []int{0, 1, 1, 1, 0}},
		{Program{Code: row(CoNum, CoDup, CoMul, CoPop, CoStop)}, []int{0, 1, 2, 1, 0}},
		{Program{Code: row(CoDup, CoPop, CoPop, CoStop)}, nil},
		{Program{Code: row(CoJump, 2, CoAdd, CoStop)}, []int{0, -1, 0}},
		{Program{Code: row(CoJump, 3, CoAdd, CoStop)}, nil},
		{Program{Code: row(CoJump, -1, CoStop)}, nil},
		{Program{Code: row(CoStop, CoStop)}, []int{0, -1}},
		{Program{Code: row(CoNum, CoZero, 3, CoNum, CoStop)}, nil},
		{Program{Code: row(CoNum, CoZero, 5, CoNum, CoElse, 5, CoJump, 0, CoStop)}, []int{0, 1, 0, 1, 0, 0}},
		{Program{Code: row(CoNum, CoElse, 3, CoJump, 3, CoStop)}, []int{0, 1, 0, 0}},
		{Program{Code: row(CoNum, CoJump, 0, CoStop)}, nil},
		{Program{Code: row(CoNum, CoCall, call(api.CkBarrier, 1, 0), CoStop)}, []int{0, 1, 0}},
		{Program{Code: row(CoCall, call(api.CkBarrier, 1, 0), CoStop)}, nil},
		{Program{Code: row(CoNum, CoCall, call(api.CkBarrier, 0, 0), CoStop)}, nil},
		{Program{Code: row(CoNum, CoNum, CoCall, call(api.CkBarrier, 2, 0), CoStop)}, nil},
		{Program{Code: row(CoNum, CoNum, CoCall, call(api.CkAllreduce, 2, 2), CoStop)}, []int{0, 1, 2, 0}},
		{Program{Code: row(CoNum, CoNum, CoCall, call(api.CkAllreduce, 2, 3), CoStop)}, nil},
		{Program{Code: row(CoNum, CoNum, CoNum, CoCall, call(api.CkReduce, 3, 1), CoStop)}, []int{0, 1, 2, 3, 0}},
		{Program{Code: row(CoNum, CoNum, CoNum, CoCall, call(api.CkBcast, 3, 1), CoStop)}, nil},
		{Program{Code: row(CoNum, CoCall, call(0, 1, 0), CoStop)}, nil},
		{Program{Code: row(CoNum, CoCall, call(23, 1, 0), CoStop)}, nil},
		{Program{Code: row(CoNum, CoCall, -31, CoStop)}, nil},
		{Program{Code: row(CoNum, CoNum, CoCall, call(api.CkTestany, 2, 0), CoStop)}, []int{0, 1, 2, 0}},
		{Program{Code: row(CoNum, CoNum, CoCall, call(api.CkTest, 2, 0), CoStop)}, nil},
		{Program{Code: append([]Instr{{Op: 0}}, row(CoStop)...)}, nil},
		{Program{Code: append([]Instr{{Op: 77}}, row(CoStop)...)}, nil},
	} {
		before := Copy(x.p)
		h, e := Heights(x.p)
		if !reflect.DeepEqual(h, x.want) || (e == api.OK) != (x.want != nil) || e != api.OK && e != api.ErrCode || May(x.p) != (x.want != nil) || !reflect.DeepEqual(before, x.p) {
			t.Errorf("%d: %v %d %v", i, h, e, May(x.p))
		}
	}
	for _, n := range []int{MaxStack, MaxStack + 1} {
		code := make([]Instr, n)
		for i := range code {
			code[i].Op = CoNum
		}
		if May(Program{Code: append(code, Instr{Op: CoStop})}) != (n == MaxStack) {
			t.Errorf("a stack of %d", n)
		}
	}
	for _, n := range []int{api.MaxCode, api.MaxCode + 1} {
		code := make([]Instr, n)
		for i := range code {
			code[i].Op = CoStop
		}
		if May(Program{Code: code}) != (n == api.MaxCode) {
			t.Errorf("%d instructions", n)
		}
	}
}

// TestText: P5.3.
func TestText(t *testing.T) {
	p := Program{Code: row(CoNum, -7, CoSet, 1, CoNum, CoSet, CoStop), Vars: 2, Arrays: []int{3, 2}}
	want := "vars 2\narrays 3 2\nnum -7\nset 1\nnum\nset\nstop\n"
	if s, e := Text(p); s != want || e != api.OK {
		t.Errorf("%q %d", s, e)
	}
	if q, e := Parse(want); !Same(p, q) || e != api.OK {
		t.Errorf("%v %d", q, e)
	}
	if s, e := Text(Program{Code: row(CoNum, 7, CoSet, CoStop), Vars: 1}); s != "vars 1\narrays\nnum 7\nset\nstop\n" || e != api.OK {
		t.Errorf("%q %d", s, e)
	}
	if s, e := Text(Program{Code: row(CoAdd, CoStop)}); s != "" || e != api.ErrCode {
		t.Errorf("%q %d", s, e)
	}
	for _, s := range []string{
		"", "\n", "vars 1", "vars 0\narrays\n", "vars 0\narrays\nstop", "vars 00\narrays\nstop\n", "vars  0\narrays\nstop\n", "0\narrays\nstop\n", "vars 0\n\nstop\n", "vars 0\narrays \nstop\n", "vars 0\narrays 1 \nstop\n", "vars 0\narrays 01\nstop\n", "vars 0\narrays  1\nstop\n",
		"vars 0\narrays\nstop 0\n", "vars 0\narrays\nstop \n", "vars 0\narrays\n\nstop\n", "vars 0\narrays\nstop\n\n", "vars 0\narrays\nadd\nstop\n", "vars 0\narrays\nnum +1\npop\nstop\n", "vars 0\narrays\nnum 01\npop\nstop\n", "vars 0\narrays\nnum 9223372036854775808\npop\nstop\n",
		"vars 0\narrays\nNum\npop\nstop\n", "vars 0\narrays\n 1\nstop\n", "vars 0\r\narrays\nstop\n", "vars -1\narrays\nstop\n", "vars 0\narrays\nnum -0\npop\nstop\n", "vars 0\narrays\n" + strings.Repeat("stop\n", 4001),
	} {
		if p, e := Parse(s); e != api.ErrCode || !reflect.DeepEqual(p, Program{}) {
			t.Errorf("%.60q: %v %d", s, p, e)
		}
	}
	if _, e := Parse("vars 0\narrays\n" + strings.Repeat("stop\n", 4000)); e != api.OK {
		t.Errorf("%d", e)
	}
	if p, e := Parse("vars 0\narrays\nnum -9223372036854775808\npop\nstop\n"); e != api.OK || p.Code[0].N != -1<<63 {
		t.Errorf("%v %d", p, e)
	}
}

// TestSame: P5.4.
func TestSame(t *testing.T) {
	p := Program{Code: row(CoNum, 7, CoSet, CoStop), Vars: 1, Arrays: []int{3, 2}}
	for i, change := range []func(*Program){
		func(q *Program) { q.Code[0].N++ }, func(q *Program) { q.Code[1].Op++ }, func(q *Program) { q.Vars++ }, func(q *Program) { q.Arrays[1]++ }, func(q *Program) { q.Arrays = q.Arrays[:1] }, func(q *Program) { q.Code = q.Code[:2] },
		func(q *Program) { q.Code = append(q.Code, Instr{}) }, func(q *Program) { q.Arrays = append(q.Arrays, 1) },
	} {
		q := Copy(p)
		if !Same(p, q) || !reflect.DeepEqual(p, q) {
			t.Errorf("a copy is the same")
		}
		change(&q)
		if Same(p, q) || Same(q, p) || p.Code[0].N != 7 || p.Code[1].Op != CoSet || p.Arrays[1] != 2 {
			t.Errorf("change %d", i)
		}
	}
	if !Same(Program{}, Program{Code: []Instr{}, Arrays: []int{}}) || !Same(Copy(Program{}), Program{}) {
		t.Errorf("none and empty are the same")
	}
}

// random tells a program of random instructions, that mostly may be.
func random(d *sample.Dice) Program {
	p := Program{Vars: d.Throw(3), Arrays: []int{2, 1}[:d.Throw(3)]}
	n := 1 + d.Throw(12)
	for range n {
		x := Instr{Op: uint8(1 + d.Throw(int(CoStop)))}
		switch x.Op {
		case CoNum:
			x.N = int64(d.Throw(9) - 4)
		case CoGet, CoSet, CoAt, CoPut:
			x.N = int64(d.Throw(2))
		case CoJump, CoZero, CoElse:
			x.N = int64(d.Throw(n + 1))
		case CoCall:
			x.N = int64(api.CkBarrier) + 32
		}
		if d.Throw(3) == 0 {
			x = Instr{Op: CoNum}
		}
		p.Code = append(p.Code, x)
	}
	p.Code = append(p.Code, Instr{Op: CoStop})
	return p
}

// reached tells which heights each place is come to with, going each way; no, if one takes too much.
func reached(p Program) (map[[2]int]int, bool) {
	takes := map[uint8]int{CoSet: 1, CoAt: 1, CoPut: 2, CoRow: 1, CoNeg: 1, CoNot: 1, CoTruth: 1, CoZero: 1, CoElse: 1, CoPop: 1, CoDup: 1, CoAssert: 1, CoCall: 1}
	gives := map[uint8]int{CoNum: 1, CoGet: 1, CoAt: 1, CoRow: 1, CoWord: 1, CoNeg: 1, CoNot: 1, CoTruth: 1, CoDup: 2}
	for op := CoMul; op <= CoOther; op++ {
		takes[op], gives[op] = 2, 1
	}
	seen := map[[2]int]int{}
	todo := [][2]int{{0, 0}}
	for len(todo) > 0 {
		at := todo[0]
		todo = todo[1:]
		if seen[at] > 0 {
			continue
		}
		seen[at] = 1
		x := p.Code[at[0]]
		if takes[x.Op] > at[1] || at[1] > 50 {
			return nil, false
		}
		h := at[1] - takes[x.Op] + gives[x.Op]
		if x.Op == CoJump || x.Op == CoZero || x.Op == CoElse {
			todo = append(todo, [2]int{int(x.N), h})
		}
		if x.Op != CoJump && x.Op != CoStop {
			todo = append(todo, [2]int{at[0] + 1, h})
		}
	}
	return seen, true
}

// TestMany: P5.2, P5.5, P5.6 of random programs.
func TestMany(t *testing.T) {
	d := sample.Seeded(5)
	may := 0
	for range 60000 {
		p := random(d)
		if !mayNumbers(p) {
			continue
		}
		h, e := Heights(p)
		seen, ok := reached(p)
		for at := range seen {
			for other := range seen {
				ok = ok && (at[0] != other[0] || at == other)
			}
		}
		if ok != (e == api.OK) {
			t.Fatalf("%v: %d", p, e)
		}
		if !ok {
			continue
		}
		may++
		for i := range h {
			if h[i] >= 0 && seen[[2]int{i, h[i]}] == 0 {
				t.Fatalf("%v: %v", p, h)
			}
		}
		for at := range seen {
			if h[at[0]] != at[1] {
				t.Fatalf("%v: %v", p, h)
			}
		}
		back(t, p)
	}
	if may < 1000 {
		t.Errorf("%d programs only", may)
	}
}

func back(t *testing.T, p Program) {
	s, e := Text(p)
	q, e2 := Parse(s)
	if e != api.OK || e2 != api.OK || !Same(p, q) {
		t.Fatalf("%v: %d %d", p, e, e2)
	}
	if len(strings.Split(s, "\n")) != len(p.Code)+3 || !strings.HasPrefix(s, "vars "+strconv.Itoa(p.Vars)+"\n") {
		t.Fatalf("%q", s)
	}
}
