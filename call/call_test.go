package call

import (
	"math"
	"reflect"
	"testing"

	"dispatcher/api"
	"dispatcher/front"
	"dispatcher/group"
	"dispatcher/sample"
	"dispatcher/tree"
	"dispatcher/vm"
)

// full is a call all of whose fields are there.
func full(kind uint8) api.Call {
	return api.Call{Kind: kind, Comm: 1, Peer: 2, Tag: 3, Value: -4, Size: 5, Root: 1, Op: api.RdMin, Reqs: []int{7}, Color: -8, Key: 9}
}

// trimmed are the calls that are left of full ones.
func trimmed() map[uint8]api.Call {
	m := map[uint8]api.Call{}
	for _, kind := range []uint8{api.CkSend, api.CkSsend, api.CkBsend, api.CkIsend, api.CkIssend} {
		m[kind] = api.Call{Kind: kind, Comm: 1, Peer: 2, Tag: 3, Value: -4, Size: 5}
	}
	for _, kind := range []uint8{api.CkRecv, api.CkIrecv, api.CkProbe, api.CkIprobe} {
		m[kind] = api.Call{Kind: kind, Comm: 1, Peer: 2, Tag: 3}
	}
	for _, kind := range []uint8{api.CkWait, api.CkWaitall, api.CkWaitany, api.CkTest, api.CkTestany} {
		m[kind] = api.Call{Kind: kind, Reqs: []int{7}}
	}
	for _, kind := range []uint8{api.CkBarrier, api.CkDup, api.CkFree} {
		m[kind] = api.Call{Kind: kind, Comm: 1}
	}
	m[api.CkBcast] = api.Call{Kind: api.CkBcast, Comm: 1, Root: 1, Value: -4}
	m[api.CkGather] = api.Call{Kind: api.CkGather, Comm: 1, Root: 1, Value: -4}
	m[api.CkReduce] = api.Call{Kind: api.CkReduce, Comm: 1, Root: 1, Value: -4, Op: api.RdMin}
	m[api.CkAllreduce] = api.Call{Kind: api.CkAllreduce, Comm: 1, Value: -4, Op: api.RdMin}
	m[api.CkSplit] = api.Call{Kind: api.CkSplit, Comm: 1, Color: -8, Key: 9}
	return m
}

// TestTrim: P16.1.
func TestTrim(t *testing.T) {
	want := trimmed()
	for kind := 0; kind < 256; kind++ {
		c := full(uint8(kind))
		got := Trim(c)
		if !reflect.DeepEqual(got, want[uint8(kind)]) || !Same(got, Trim(got)) || Same(c, got) {
			t.Errorf("%d: %v", kind, got)
		}
		if len(got.Reqs) > 0 {
			if got.Reqs[0] = 99; c.Reqs[0] != 7 {
				t.Errorf("memory is shared")
			}
		}
	}
	if len(want) != int(api.CkFree) {
		t.Errorf("%d kinds", len(want))
	}
	a := full(1)
	for i, change := range []func(*api.Call){func(c *api.Call) { c.Kind++ }, func(c *api.Call) { c.Comm++ }, func(c *api.Call) { c.Peer++ }, func(c *api.Call) { c.Tag++ }, func(c *api.Call) { c.Value++ }, func(c *api.Call) { c.Size++ }, func(c *api.Call) { c.Root++ },
		func(c *api.Call) { c.Op++ }, func(c *api.Call) { c.Reqs = []int{8} }, func(c *api.Call) { c.Reqs = nil }, func(c *api.Call) { c.Reqs = []int{7, 7} }, func(c *api.Call) { c.Color++ }, func(c *api.Call) { c.Key++ }} {
		b := full(1)
		if !Same(a, b) {
			t.Errorf("the same")
		}
		change(&b)
		if Same(a, b) || Same(b, a) {
			t.Errorf("change %d", i)
		}
	}
	if !Same(api.Call{}, api.Call{Reqs: []int{}}) {
		t.Errorf("none and empty")
	}
}

// TestDecides: P16.1.
func TestDecides(t *testing.T) {
	for kind := 0; kind < 256; kind++ {
		c := full(uint8(kind))
		always := map[uint8]int{api.CkWaitany: 1, api.CkTest: 1, api.CkTestany: 1, api.CkIprobe: 1}[c.Kind] == 1
		ofAny := map[uint8]int{api.CkRecv: 1, api.CkIrecv: 1, api.CkProbe: 1}[c.Kind] == 1
		if Decides(c) != always {
			t.Errorf("%v", c)
		}
		c.Tag = api.Any
		if Decides(c) != always {
			t.Errorf("%v", c)
		}
		if c.Peer = api.Any; Decides(c) != (always || ofAny) {
			t.Errorf("%v", c)
		}
	}
}

// TestMay: P16.2.
func TestMay(t *testing.T) {
	g := group.Group{Key: "x", Ranks: []int{7, 4, 5}}
	base := trimmed()
	for kind, c := range base {
		if !May(c, g) || May(c, group.Group{}) || !May(full(kind), g) {
			t.Errorf("%d", kind)
		}
		for _, comm := range []int{-1, 32} {
			c := c
			if c.Comm = comm; May(c, g) != (len(c.Reqs) > 0) {
				t.Errorf("%v", c)
			}
		}
		if c.Comm = 31; !May(c, g) {
			t.Errorf("%v", c)
		}
	}
	for _, x := range []struct {
		kind   uint8
		change func(*api.Call)
		ok     bool
	}{
		{api.CkSend, func(c *api.Call) { c.Peer = 3 }, false}, {api.CkSend, func(c *api.Call) { c.Peer = -1 }, false}, {api.CkSend, func(c *api.Call) { c.Peer = 0 }, true}, {api.CkSend, func(c *api.Call) { c.Tag = -1 }, false}, {api.CkSend, func(c *api.Call) { c.Tag = 32768 }, false}, {api.CkSend, func(c *api.Call) { c.Tag = 32767 }, true},
		{api.CkIssend, func(c *api.Call) { c.Size = 0 }, false}, {api.CkIssend, func(c *api.Call) { c.Size = 65 }, false}, {api.CkIssend, func(c *api.Call) { c.Size = 64 }, true}, {api.CkRecv, func(c *api.Call) { c.Peer = -1 }, true}, {api.CkRecv, func(c *api.Call) { c.Peer = -2 }, false}, {api.CkIrecv, func(c *api.Call) { c.Tag = -1 }, true},
		{api.CkProbe, func(c *api.Call) { c.Tag = -2 }, false}, {api.CkIprobe, func(c *api.Call) { c.Peer, c.Tag = -1, -1 }, true}, {api.CkIprobe, func(c *api.Call) { c.Peer = 3 }, false}, {api.CkBcast, func(c *api.Call) { c.Root = 3 }, false}, {api.CkGather, func(c *api.Call) { c.Root = -1 }, false}, {api.CkReduce, func(c *api.Call) { c.Op = 3 }, false},
		{api.CkAllreduce, func(c *api.Call) { c.Op = 3 }, false}, {api.CkBarrier, func(c *api.Call) { c.Op, c.Root, c.Size, c.Reqs = 3, 9, 99, make([]int, 20) }, true}, {api.CkSplit, func(c *api.Call) { c.Color, c.Key = math.MinInt, math.MaxInt }, true},
		{api.CkWait, func(c *api.Call) { c.Reqs = nil }, false}, {api.CkWait, func(c *api.Call) { c.Reqs = []int{1, 2} }, false}, {api.CkTest, func(c *api.Call) { c.Reqs = []int{256} }, false}, {api.CkTest, func(c *api.Call) { c.Reqs = []int{255} }, true}, {api.CkTest, func(c *api.Call) { c.Reqs = []int{-1} }, false},
		{api.CkWaitall, func(c *api.Call) { c.Reqs = nil }, false}, {api.CkWaitany, func(c *api.Call) { c.Reqs = []int{1, 2, 3, 4, 5, 6, 7, 8} }, true}, {api.CkWaitany, func(c *api.Call) { c.Reqs = []int{1, 2, 3, 4, 5, 6, 7, 8, 9} }, false}, {api.CkTestany, func(c *api.Call) { c.Reqs = []int{1, 2, 1} }, false},
	} {
		c := base[x.kind]
		x.change(&c)
		if May(c, g) != x.ok {
			t.Errorf("%v", c)
		}
	}
	for _, kind := range []uint8{0, api.CkFree + 1, 255} {
		if May(full(kind), g) {
			t.Errorf("%d", kind)
		}
	}
}

// TestText: P16.3.
func TestText(t *testing.T) {
	for s, c := range map[string]api.Call{
		"recv(0, -1, 3)": {Kind: api.CkRecv, Peer: -1, Tag: 3}, "wait(5)": {Kind: api.CkWait, Reqs: []int{5}}, "reduce(0, 1, -4, max)": {Kind: api.CkReduce, Root: 1, Value: -4, Op: api.RdMax}, "allreduce(0, -9223372036854775808, sum)": {Kind: api.CkAllreduce, Value: math.MinInt64},
		"testany(3, 3, -1)": {Kind: api.CkTestany, Reqs: []int{3, 3, -1}}, "send(1, 2, 3, 4, 5)": {Kind: api.CkSend, Comm: 1, Peer: 2, Tag: 3, Value: 4, Size: 5}, "split(1, -2, 3)": {Kind: api.CkSplit, Comm: 1, Color: -2, Key: 3}, "bcast(9, 8, 7)": {Kind: api.CkBcast, Comm: 9, Root: 8, Value: 7}, "free(99)": {Kind: api.CkFree, Comm: 99},
	} {
		if got, e := Text(c); got != s || e != api.OK {
			t.Errorf("%s: %s %d", s, got, e)
		}
		if got, e := Parse(s); !Same(got, c) || e != api.OK {
			t.Errorf("%s: %v %d", s, got, e)
		}
	}
	for _, c := range []api.Call{{}, {Kind: 23}, {Kind: api.CkRecv, Size: 1}, {Kind: api.CkWait}, {Kind: api.CkWait, Reqs: []int{1, 2}}, {Kind: api.CkTest, Reqs: []int{1, 2}}, {Kind: api.CkWaitall}, {Kind: api.CkWaitall, Reqs: make([]int, 9)}, {Kind: api.CkReduce, Op: 3}, {Kind: api.CkAllreduce, Op: 255}, {Kind: api.CkBarrier, Reqs: []int{1}}, {Kind: api.CkWait, Reqs: []int{1}, Comm: 1}} {
		if s, e := Text(c); s != "" || e != api.ErrCall {
			t.Errorf("%v: %s %d", c, s, e)
		}
	}
	for _, s := range []string{"", "recv", "recv(", "recv()", "recv(0, 1)", "recv(0, 1, 2, 3)", "recv(0, 1, 2);", "recv(0,1,2)", "recv(0, 1,  2)", " recv(0, 1, 2)", "recv (0, 1, 2)", "recv(0, 1, 02)", "recv(0, 1, +2)", "recv(0, 1, -0)", "recv(0, 1, x)", "recv(0, any, 3)", "wait()", "wait(1, 2)", "waitall()", "waitall(1, 2, 3, 4, 5, 6, 7, 8, 9)",
		"reduce(0, 1, 2)", "reduce(0, 1, 2, 3)", "reduce(0, 1, 2, mid)", "reduce(0, 1, sum, 2)", "sum(1)", "barrier(9223372036854775808)", "recv(0, 1, 2", "recv(0, 1, 2))", "(0)", "allreduce(0, 1, )"} {
		if c, e := Parse(s); e != api.ErrCall || !Same(c, api.Call{}) {
			t.Errorf("%s: %v %d", s, c, e)
		}
	}
}

// TestTold: P16.4.
func TestTold(t *testing.T) {
	x := api.Result{Flag: true, Value: -7, Peer: 1, Tag: 2, Req: 3, Index: 4, Comm: -1, Row: []int64{8, -9}}
	want := map[uint8]string{
		api.CkIsend: "req 3", api.CkIssend: "req 3", api.CkIrecv: "req 3", api.CkRecv: "value -7 peer 1 tag 2", api.CkWait: "value -7 peer 1 tag 2", api.CkWaitall: "value -7 peer 1 tag 2 row 8 -9",
		api.CkWaitany: "flag 1 index 4 value -7 peer 1 tag 2", api.CkTest: "flag 1 index 4 value -7 peer 1 tag 2", api.CkTestany: "flag 1 index 4 value -7 peer 1 tag 2", api.CkProbe: "flag 1 peer 1 tag 2", api.CkIprobe: "flag 1 peer 1 tag 2",
		api.CkBcast: "value -7", api.CkReduce: "value -7", api.CkAllreduce: "value -7", api.CkGather: "row 8 -9", api.CkDup: "comm -1", api.CkSplit: "comm -1",
	}
	for kind := 0; kind < 256; kind++ {
		if s := Told(uint8(kind), x); s != want[uint8(kind)] {
			t.Errorf("%d: %q", kind, s)
		}
	}
	if Told(api.CkGather, api.Result{}) != "row" || Told(api.CkWaitall, api.Result{}) != "value 0 peer 0 tag 0 row" || Told(api.CkTest, api.Result{Index: -1}) != "flag 0 index -1 value 0 peer 0 tag 0" {
		t.Errorf("of nothing")
	}
}

// TestMany: P16.5, P16.6, P16.7.
func TestMany(t *testing.T) {
	d := sample.Seeded(1)
	g, _ := group.World(5)
	for range 3000 {
		n := func() int { return d.Throw(9) - 2 }
		c := api.Call{Kind: uint8(1 + d.Throw(22)), Comm: n(), Peer: n(), Tag: n(), Value: int64(n()), Size: n(), Root: n(), Op: uint8(d.Throw(3)), Reqs: []int{n()}, Color: n(), Key: n()}
		trim := Trim(c)
		if May(c, g) != May(trim, g) || Decides(c) != Decides(trim) {
			t.Fatalf("%v", c)
		}
		s, e := Text(trim)
		back, e2 := Parse(s)
		if e != api.OK || e2 != api.OK || !Same(back, trim) {
			t.Fatalf("%v: %s %v", trim, s, back)
		}
		p, w := front.Compile([]byte(s + ";"))
		if w != (tree.Wrong{}) {
			t.Fatalf("%s: %v", s, w)
		}
		r, _ := vm.New(p, 0, 1)
		if out, _ := r.Run(100); out.Kind != vm.OutCall || !Same(out.Call, trim) {
			t.Fatalf("%s: %v", s, out)
		}
		r.Give(api.Result{})
		if out, _ := r.Run(100); out.Kind != vm.OutDone {
			t.Fatalf("%s: %v", s, out)
		}
	}
}
