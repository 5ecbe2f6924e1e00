package core

import (
	"reflect"
	"slices"
	"testing"

	"dispatcher/api"
	"dispatcher/posted"
	"dispatcher/queue"
)

func made2(t *testing.T, cfg api.Config) *Core {
	t.Helper()
	c, e := New(cfg)
	if e != api.OK {
		t.Fatalf("%v: %d", cfg, e)
	}
	return c
}

func make2(t *testing.T, c *Core, rank int, call api.Call) {
	t.Helper()
	if fault, e := c.Make(rank, call); fault || e != api.OK {
		t.Fatalf("%d: %v: %v %d", rank, call, fault, e)
	}
}

func do(t *testing.T, c *Core, p api.Pick) {
	t.Helper()
	if e := c.Do(p); e != api.OK {
		t.Fatalf("%v: %d", p, e)
	}
}

func tell(t *testing.T, c *Core, rank int, want api.Result) {
	t.Helper()
	if x, e := c.Tell(rank); e != api.OK || !reflect.DeepEqual(x, want) {
		t.Fatalf("%d: %v %d, not %v", rank, x, e, want)
	}
}

func match(rank, call, from, seq int) api.Pick {
	return api.Pick{Kind: api.PkMatch, Rank: rank, Call: call, From: from, Seq: seq}
}

func answered(rank, call, value, from, seq int) api.Pick {
	return api.Pick{Kind: api.PkAnswer, Rank: rank, Call: call, Value: value, From: from, Seq: seq}
}

func picks(t *testing.T, c *Core, rank int, want ...api.Pick) {
	t.Helper()
	if l := c.Picks(rank); !slices.Equal(l, want) {
		t.Fatalf("%d: %v, not %v", rank, l, want)
	}
}

func send(kind uint8, peer, tag int, value int64, size int) api.Call {
	return api.Call{Kind: kind, Peer: peer, Tag: tag, Value: value, Size: size}
}

func receiving(kind uint8, peer, tag int) api.Call {
	return api.Call{Kind: kind, Peer: peer, Tag: tag}
}

func waiting(kind uint8, reqs ...int) api.Call { return api.Call{Kind: kind, Reqs: reqs} }

// TestNew: P17.1.
func TestNew(t *testing.T) {
	for _, x := range []struct {
		cfg api.Config
		e   api.Errno
	}{{api.Config{Ranks: 1}, 0}, {api.Config{Ranks: 64, Eager: 64, Polls: 64, Loose: true, Runs: -1, Steps: -1}, 0}, {api.Config{}, api.ErrArg}, {api.Config{Ranks: 65}, api.ErrArg}, {api.Config{Ranks: -1}, api.ErrArg}, {api.Config{Ranks: 1, Eager: -1}, api.ErrArg}, {api.Config{Ranks: 1, Eager: 65}, api.ErrArg}, {api.Config{Ranks: 1, Polls: -1}, api.ErrArg}, {api.Config{Ranks: 1, Polls: 65}, api.ErrArg}} {
		if c, e := New(x.cfg); e != x.e || (c == nil) != (e != api.OK) {
			t.Errorf("%v: %d", x.cfg, e)
		}
	}
	c := made2(t, api.Config{Ranks: 2})
	for _, rank := range []int{-1, 2, 1 << 40} {
		if fault, e := c.Make(rank, api.Call{Kind: api.CkBarrier}); fault || e != api.ErrArg || c.Calls(rank) != 0 || c.Open(rank) || c.Over(rank) || c.Ended(rank) || c.End(rank) != api.ErrArg || c.Picks(rank) != nil || c.Left(rank) != nil || c.Waiting(rank) != nil || c.Point(rank, 0) {
			t.Errorf("no rank %d", rank)
		}
		if x, e := c.Tell(rank); e != api.ErrArg || !reflect.DeepEqual(x, api.Result{}) {
			t.Errorf("no rank %d", rank)
		}
	}
	make2(t, c, 0, api.Call{Kind: api.CkBarrier})
	if fault, e := c.Make(0, api.Call{Kind: api.CkBarrier}); fault || e != api.ErrArg || c.End(0) != api.ErrArg {
		t.Errorf("an open call: %v %d", fault, e)
	}
	if c.End(1) != api.OK || c.End(1) != api.ErrArg || !c.Ended(1) || c.Ended(0) {
		t.Errorf("the end")
	}
	if fault, e := c.Make(1, api.Call{}); fault || e != api.ErrArg {
		t.Errorf("an ended one: %v %d", fault, e)
	}
}

// TestFaults: P17.1: calls that may not be.
func TestFaults(t *testing.T) {
	c := made2(t, api.Config{Ranks: 3, Eager: 1})
	make2(t, c, 0, send(api.CkIsend, 1, 0, 0, 1))
	tell(t, c, 0, api.Result{Req: 0})
	make2(t, c, 0, receiving(api.CkIrecv, 1, 0))
	tell(t, c, 0, api.Result{Req: 1})
	make2(t, c, 0, waiting(api.CkWait, 0))
	tell(t, c, 0, api.Result{Row: []int64{0}})
	make2(t, c, 1, api.Call{Kind: api.CkFree})
	tell(t, c, 1, api.Result{})
	bad := []api.Call{
		{}, {Kind: 23}, {Kind: 255}, send(api.CkSend, 3, 0, 0, 1), send(api.CkSend, -1, 0, 0, 1), send(api.CkSsend, 1, -1, 0, 1), send(api.CkSsend, 1, 32768, 0, 1), send(api.CkBsend, 1, 0, 0, 0), send(api.CkIsend, 1, 0, 0, 65), send(api.CkIssend, 1, 0, 0, -1),
		receiving(api.CkRecv, 3, 0), receiving(api.CkRecv, -2, 0), receiving(api.CkIrecv, 0, -2), receiving(api.CkProbe, 0, 32768), receiving(api.CkIprobe, 7, 0),
		waiting(api.CkWait), waiting(api.CkWait, 0), waiting(api.CkWait, 1, 1), waiting(api.CkWait, 2), waiting(api.CkTest, -1), waiting(api.CkTest), waiting(api.CkWaitall), waiting(api.CkWaitall, 1, 0), waiting(api.CkWaitany, 1, 1), waiting(api.CkTestany, 1, 2), waiting(api.CkTestany, 1, 1, 1, 1, 1, 1, 1, 1, 1),
		{Kind: api.CkBcast, Root: 3}, {Kind: api.CkGather, Root: -1}, {Kind: api.CkReduce, Op: 3}, {Kind: api.CkReduce, Root: 3}, {Kind: api.CkAllreduce, Op: 9},
	}
	for kind := api.CkSend; kind <= api.CkFree; kind++ {
		for _, comm := range []int{-1, 1, 32} {
			if !waitsFor(kind) {
				bad = append(bad, api.Call{Kind: kind, Comm: comm, Size: 1})
			}
		}
	}
	before := c.Copy()
	for _, call := range bad {
		if fault, e := c.Make(0, call); !fault || e != api.OK || !Same(c, before) {
			t.Errorf("%v: %v %d", call, fault, e)
		}
		call.Comm = 0
		if fault, _ := c.Make(1, call); !fault && !waitsFor(call.Kind) {
			t.Errorf("of a handle that is gone: %v", call)
		}
	}
	for _, call := range []api.Call{receiving(api.CkRecv, -1, -1), {Kind: api.CkBarrier, Peer: -9, Tag: -9, Size: -9, Root: -9, Op: 9, Reqs: []int{-9}}, {Kind: api.CkAllreduce, Root: 9, Op: 2}, {Kind: api.CkSplit, Color: -1 << 62, Key: 1 << 62, Op: 7}, {Kind: api.CkTest, Comm: 9, Reqs: []int{1}}, send(api.CkSend, 0, 32767, 1, 64)} {
		d := c.Copy()
		make2(t, d, 0, call)
		if got, x, ok := d.Call(0, 3); !ok || !reflect.DeepEqual(x, api.Result{}) || !reflect.DeepEqual(got, call) {
			t.Errorf("%v: %v %v", call, got, x)
		}
	}
}

// TestFull: P17.1: MaxReqs, MaxComms.
func TestFull(t *testing.T) {
	c := made2(t, api.Config{Ranks: 1, Eager: 1})
	for i := range api.MaxReqs {
		make2(t, c, 0, receiving(api.CkIrecv, 0, 0))
		tell(t, c, 0, api.Result{Req: i})
	}
	for _, call := range []api.Call{receiving(api.CkIrecv, 0, 0), send(api.CkIsend, 0, 0, 0, 1), send(api.CkIssend, 0, 0, 0, 1)} {
		if fault, e := c.Make(0, call); !fault || e != api.OK {
			t.Errorf("%v", call)
		}
	}
	for i := 1; i < api.MaxComms; i++ {
		make2(t, c, 0, api.Call{Kind: api.CkDup})
		tell(t, c, 0, api.Result{Comm: i})
	}
	make2(t, c, 0, api.Call{Kind: api.CkFree, Comm: 5})
	tell(t, c, 0, api.Result{})
	for _, call := range []api.Call{{Kind: api.CkDup}, {Kind: api.CkSplit}, {Kind: api.CkSplit, Color: -1}} {
		if fault, e := c.Make(0, call); !fault || e != api.OK {
			t.Errorf("%v", call)
		}
	}
	make2(t, c, 0, send(api.CkSend, 0, 0, 0, 1))
}

// TestSends: P17.2: what is over, P17.3, P17.4: matches.
func TestSends(t *testing.T) {
	for _, x := range []struct {
		kind   uint8
		size   int
		over   bool
		result api.Result
		done   bool
	}{
		{api.CkSend, 2, true, api.Result{}, false}, {api.CkSend, 3, false, api.Result{}, false}, {api.CkSsend, 1, false, api.Result{}, false}, {api.CkBsend, 64, true, api.Result{}, false}, {api.CkIsend, 2, true, api.Result{}, true}, {api.CkIsend, 3, true, api.Result{}, false}, {api.CkIssend, 1, true, api.Result{}, false},
	} {
		c := made2(t, api.Config{Ranks: 2, Eager: 2})
		make2(t, c, 0, send(x.kind, 1, 5, 7, x.size))
		if !c.Open(0) || c.Over(0) != x.over || c.Calls(0) != 1 {
			t.Errorf("%v: %v %v", x, c.Open(0), c.Over(0))
		}
		if _, e := c.Tell(0); e == api.OK != x.over {
			t.Errorf("%v: %d", x, e)
		}
		if l := c.Messages(); !reflect.DeepEqual(l, []queue.Message{{From: 0, To: 1, Call: 0, Tag: 5, Value: 7, Size: x.size}}) {
			t.Errorf("%v", l)
		}
		left := 0
		if x.kind == api.CkIsend || x.kind == api.CkIssend {
			left = 1
			if r, _ := c.ranks[0].requests.At(0); r.Done != x.done || r.Recv {
				t.Errorf("%v: %v", x, r)
			}
		}
		if len(c.Left(0)) != left {
			t.Errorf("%v: %v", x, c.Left(0))
		}
		make2(t, c, 1, receiving(api.CkRecv, api.Any, api.Any))
		picks(t, c, 0)
		picks(t, c, 1, match(1, 0, 0, 0))
		if l := c.Waiting(1); !reflect.DeepEqual(l, []posted.Receive{{Rank: 1, Peer: -1, Tag: -1, Req: -1}}) {
			t.Errorf("%v", l)
		}
		for _, p := range []api.Pick{{}, match(1, 0, 1, 0), match(0, 0, 0, 0), match(1, 1, 0, 0), answered(1, 0, 0, 0, 0), {Kind: api.PkGo, Rank: 1}, {Kind: api.PkMatch, Rank: 1, Value: 1}, {Kind: api.PkMatch, Rank: 9}} {
			if e := c.Do(p); e != api.ErrPick {
				t.Errorf("%v: %d", p, e)
			}
		}
		if _, e := c.Tell(1); e != api.ErrArg || c.Over(1) {
			t.Errorf("it isn't matched")
		}
		do(t, c, match(1, 0, 0, 0))
		picks(t, c, 1)
		if len(c.Messages()) != 0 || len(c.Waiting(1)) != 0 || !c.Over(1) {
			t.Errorf("it is matched")
		}
		tell(t, c, 1, api.Result{Value: 7, Peer: 0, Tag: 5})
		if c.Open(1) || c.Over(1) {
			t.Errorf("it is told")
		}
		if _, x, _ := c.Call(1, 0); !reflect.DeepEqual(x, api.Result{Value: 7, Peer: 0, Tag: 5}) {
			t.Errorf("%v", x)
		}
		if !x.over {
			tell(t, c, 0, api.Result{})
		}
		if left == 1 {
			make2(t, c, 0, waiting(api.CkWait, 0))
			tell(t, c, 0, api.Result{Row: []int64{0}})
		}
	}
}

// TestRequests: P17.2 to P17.5: waits and tests.
func TestRequests(t *testing.T) {
	c := made2(t, api.Config{Ranks: 3, Eager: 0, Polls: 2})
	for i := range 3 {
		make2(t, c, 0, receiving(api.CkIrecv, i%2+1, 5+i))
		tell(t, c, 0, api.Result{Req: i})
	}
	if l := c.Waiting(0); len(l) != 3 || l[1] != (posted.Receive{Rank: 0, Call: 1, Peer: 2, Tag: 6, Req: 1}) {
		t.Errorf("%v", l)
	}
	make2(t, c, 0, waiting(api.CkTestany, 2, 1))
	picks(t, c, 0, answered(0, 3, -1, 0, 0))
	do(t, c, answered(0, 3, -1, 0, 0))
	picks(t, c, 0)
	tell(t, c, 0, api.Result{Index: -1})
	make2(t, c, 0, waiting(api.CkTest, 1))
	make2(t, c, 2, send(api.CkIsend, 0, 6, 70, 1))
	picks(t, c, 0, match(0, 1, 2, 0), answered(0, 4, -1, 0, 0))
	do(t, c, match(0, 1, 2, 0))
	picks(t, c, 0, answered(0, 4, -1, 0, 0), answered(0, 4, 0, 0, 0))
	do(t, c, answered(0, 4, -1, 0, 0))
	tell(t, c, 0, api.Result{Index: -1})
	make2(t, c, 0, waiting(api.CkTestany, 0, 1))
	picks(t, c, 0, answered(0, 5, 1, 0, 0))
	if e := c.Do(answered(0, 5, -1, 0, 0)); e != api.ErrPick {
		t.Errorf("it said no twice: %d", e)
	}
	do(t, c, answered(0, 5, 1, 0, 0))
	tell(t, c, 0, api.Result{Flag: true, Index: 1, Value: 70, Peer: 2, Tag: 6})
	if l := c.Left(0); !slices.Equal(l, []int{0, 2}) {
		t.Errorf("%v", l)
	}
	make2(t, c, 0, waiting(api.CkWaitany, 2, 0))
	picks(t, c, 0)
	make2(t, c, 1, send(api.CkBsend, 0, 7, 71, 1))
	tell(t, c, 1, api.Result{})
	make2(t, c, 1, send(api.CkBsend, 0, 5, 72, 1))
	do(t, c, match(0, 2, 1, 0))
	picks(t, c, 0, match(0, 0, 1, 1), answered(0, 6, 0, 0, 0))
	do(t, c, match(0, 0, 1, 1))
	picks(t, c, 0, answered(0, 6, 0, 0, 0), answered(0, 6, 1, 0, 0))
	if c.Over(0) {
		t.Errorf("it isn't answered")
	}
	d := c.Copy()
	do(t, c, answered(0, 6, 1, 0, 0))
	tell(t, c, 0, api.Result{Index: 1, Value: 72, Peer: 1, Tag: 5})
	do(t, d, answered(0, 6, 0, 0, 0))
	tell(t, d, 0, api.Result{Index: 0, Value: 71, Peer: 1, Tag: 7})
	make2(t, d, 0, waiting(api.CkTest, 0))
	picks(t, d, 0, answered(0, 7, 0, 0, 0))
	do(t, d, answered(0, 7, 0, 0, 0))
	tell(t, d, 0, api.Result{Flag: true, Value: 72, Peer: 1, Tag: 5})
	make2(t, c, 0, waiting(api.CkWait, 2))
	tell(t, c, 0, api.Result{Value: 71, Peer: 1, Tag: 7, Row: []int64{71}})
	make2(t, c, 0, send(api.CkIsend, 1, 0, 5, 1))
	tell(t, c, 0, api.Result{Req: 3})
	make2(t, c, 0, receiving(api.CkIrecv, 1, 9))
	tell(t, c, 0, api.Result{Req: 4})
	make2(t, c, 0, waiting(api.CkWaitall, 4, 3))
	tell(t, c, 1, api.Result{})
	make2(t, c, 1, send(api.CkBsend, 0, 9, -3, 1))
	do(t, c, match(0, 9, 1, 2))
	if c.Over(0) {
		t.Errorf("one is not complete")
	}
	tell(t, c, 1, api.Result{})
	make2(t, c, 1, receiving(api.CkRecv, 0, 0))
	do(t, c, match(1, 3, 0, 8))
	tell(t, c, 0, api.Result{Value: -3, Peer: 1, Tag: 9, Row: []int64{-3, 0}})
	if len(c.Left(0)) != 0 {
		t.Errorf("%v", c.Left(0))
	}
}

// TestProbes: P17.2 to P17.5: probes.
func TestProbes(t *testing.T) {
	c := made2(t, api.Config{Ranks: 3, Eager: 9, Polls: 1})
	make2(t, c, 0, receiving(api.CkProbe, 2, api.Any))
	picks(t, c, 0)
	make2(t, c, 2, send(api.CkSend, 0, 5, 70, 1))
	make2(t, c, 1, send(api.CkSend, 0, 6, 71, 1))
	picks(t, c, 0, answered(0, 0, 0, 2, 0))
	if c.Point(0, 0) || c.Point(0, 1) || c.Point(0, -1) || c.Point(1, 0) {
		t.Errorf("no points")
	}
	do(t, c, answered(0, 0, 0, 2, 0))
	if !c.Over(0) || len(c.Messages()) != 2 {
		t.Errorf("a probe takes nothing")
	}
	tell(t, c, 0, api.Result{Peer: 2, Tag: 5})
	make2(t, c, 0, receiving(api.CkIprobe, api.Any, api.Any))
	picks(t, c, 0, answered(0, 1, -1, 0, 0), answered(0, 1, 0, 1, 0), answered(0, 1, 0, 2, 0))
	d := c.Copy()
	do(t, d, answered(0, 1, -1, 0, 0))
	tell(t, d, 0, api.Result{Index: -1})
	make2(t, d, 0, receiving(api.CkIprobe, 1, 9))
	picks(t, d, 0)
	do(t, c, answered(0, 1, 0, 1, 0))
	tell(t, c, 0, api.Result{Flag: true, Peer: 1, Tag: 6})
	make2(t, c, 0, receiving(api.CkProbe, api.Any, 5))
	if !c.Point(0, 1) || !c.Point(0, 2) {
		t.Errorf("points")
	}
	picks(t, c, 0, answered(0, 2, 0, 2, 0))
	if Same(c, d) {
		t.Errorf("they were answered otherwise")
	}
}

// TestPoint: P17.5.
func TestPoint(t *testing.T) {
	c := made2(t, api.Config{Ranks: 2})
	make2(t, c, 0, receiving(api.CkIrecv, 0, 0))
	tell(t, c, 0, api.Result{})
	for _, x := range []struct {
		call api.Call
		want bool
	}{{receiving(api.CkRecv, -1, 0), true}, {receiving(api.CkRecv, 1, -1), false}, {receiving(api.CkIrecv, -1, 0), true}, {receiving(api.CkIrecv, 0, 0), false}, {receiving(api.CkProbe, -1, 0), true}, {receiving(api.CkProbe, 0, 0), false}, {receiving(api.CkIprobe, 0, 0), true}, {waiting(api.CkWait, 0), false}, {waiting(api.CkWaitall, 0), false}, {waiting(api.CkWaitany, 0), true}, {waiting(api.CkTest, 0), true}, {waiting(api.CkTestany, 0), true}, {send(api.CkSend, 0, 0, 0, 1), false}, {api.Call{Kind: api.CkBarrier, Peer: -1}, false}} {
		d := c.Copy()
		make2(t, d, 0, x.call)
		if d.Point(0, 1) != x.want {
			t.Errorf("%v", x.call)
		}
	}
}

// TestTogether: P17.2, P17.3: calls together, handles; P17.5: Odd.
func TestTogether(t *testing.T) {
	c := made2(t, api.Config{Ranks: 3, Eager: 9})
	all := func(call func(rank int) api.Call, want func(rank int) api.Result) {
		t.Helper()
		for rank := range 3 {
			if make2(t, c, rank, call(rank)); c.Over(rank) != (rank == 2) {
				t.Errorf("%d is over", rank)
			}
		}
		for rank := range 3 {
			tell(t, c, rank, want(rank))
		}
	}
	same := func(call api.Call) func(int) api.Call { return func(int) api.Call { return call } }
	told := func(x api.Result) func(int) api.Result { return func(int) api.Result { return x } }
	at := func(rank int, x api.Result) func(int) api.Result {
		return func(r int) api.Result {
			if r == rank {
				return x
			}
			return api.Result{}
		}
	}
	with := func(call api.Call) func(int) api.Call {
		return func(rank int) api.Call {
			call.Value = int64(rank + 5)
			return call
		}
	}
	all(same(api.Call{Kind: api.CkBarrier, Value: 9}), told(api.Result{}))
	all(with(api.Call{Kind: api.CkBcast, Root: 1}), told(api.Result{Value: 6}))
	all(with(api.Call{Kind: api.CkReduce, Root: 2}), at(2, api.Result{Value: 18}))
	all(with(api.Call{Kind: api.CkAllreduce, Op: api.RdMax}), told(api.Result{Value: 7}))
	all(with(api.Call{Kind: api.CkGather}), at(0, api.Result{Row: []int64{5, 6, 7}}))
	all(same(api.Call{Kind: api.CkDup}), told(api.Result{Comm: 1}))
	all(func(rank int) api.Call {
		return api.Call{Kind: api.CkSplit, Comm: 1, Color: rank - 1, Key: -rank}
	}, func(rank int) api.Result { return api.Result{Comm: []int{-1, 2, 2}[rank]} })
	all(func(rank int) api.Call {
		return api.Call{Kind: api.CkSplit, Comm: 0, Color: 7, Key: -rank}
	}, func(rank int) api.Result { return api.Result{Comm: []int{2, 3, 3}[rank]} })
	make2(t, c, 0, receiving(api.CkIrecv, 1, 0))
	tell(t, c, 0, api.Result{})
	make2(t, c, 0, api.Call{Kind: api.CkRecv, Comm: 2, Peer: api.Any, Tag: 0})
	make2(t, c, 2, api.Call{Kind: api.CkSend, Comm: 3, Peer: 2, Tag: 0, Value: 4, Size: 1})
	picks(t, c, 0, match(0, 9, 2, 8))
	do(t, c, match(0, 9, 2, 8))
	tell(t, c, 0, api.Result{Value: 4, Peer: 0})
	if len(c.Odd()) != 0 {
		t.Errorf("%v", c.Odd())
	}
	tell(t, c, 2, api.Result{})
	make2(t, c, 0, api.Call{Kind: api.CkBarrier, Comm: 2})
	make2(t, c, 2, api.Call{Kind: api.CkDup, Comm: 3})
	if l := c.Odd(); !slices.Equal(l, []string{".6:7.0"}) || c.Over(0) || c.Over(2) {
		t.Errorf("%v", l)
	}
}

// TestFreed: P17.2, P17.3: receives, and calls together, of a handle that is freed behind them.
func TestFreed(t *testing.T) {
	c := made2(t, api.Config{Ranks: 2})
	make2(t, c, 0, receiving(api.CkIrecv, 1, 0))
	tell(t, c, 0, api.Result{})
	make2(t, c, 0, api.Call{Kind: api.CkFree})
	tell(t, c, 0, api.Result{})
	make2(t, c, 1, send(api.CkBsend, 0, 0, 7, 1))
	picks(t, c, 0, match(0, 0, 1, 0))
	do(t, c, match(0, 0, 1, 0))
	make2(t, c, 0, waiting(api.CkWait, 0))
	tell(t, c, 0, api.Result{Value: 7, Peer: 1, Row: []int64{7}})
	if c.End(0) != api.OK {
		t.Errorf("the end")
	}
	loose := made2(t, api.Config{Ranks: 2, Loose: true})
	make2(t, loose, 0, api.Call{Kind: api.CkBcast, Value: 8})
	tell(t, loose, 0, api.Result{Value: 8})
	make2(t, loose, 0, receiving(api.CkIrecv, api.Any, 0))
	tell(t, loose, 0, api.Result{})
	loose.End(0)
	make2(t, loose, 1, api.Call{Kind: api.CkBcast, Value: 9})
	tell(t, loose, 1, api.Result{Value: 8})
	make2(t, loose, 1, send(api.CkSsend, 0, 0, 3, 1))
	picks(t, loose, 0, match(0, 1, 1, 1))
	do(t, loose, match(0, 1, 1, 1))
	tell(t, loose, 1, api.Result{})
}

// TestSame: P17.6, and cores of nobody.
func TestSame(t *testing.T) {
	base := made2(t, api.Config{Ranks: 2, Polls: 3, Eager: 1})
	make2(t, base, 1, send(api.CkSend, 0, 0, 7, 1))
	make2(t, base, 0, receiving(api.CkIrecv, 1, 0))
	tell(t, base, 0, api.Result{})
	make2(t, base, 0, waiting(api.CkTest, 0))
	for i, change := range []func(*Core){
		func(c *Core) { c.Do(match(0, 0, 1, 0)) }, func(c *Core) { c.Do(answered(0, 1, -1, 0, 0)) }, func(c *Core) { c.Tell(1) }, func(c *Core) { c.Tell(1); c.End(1) }, func(c *Core) { c.Tell(1); c.Make(1, api.Call{Kind: api.CkBarrier}) },
		func(c *Core) { c.cfg.Polls++ }, func(c *Core) { c.cfg.Loose = true }, func(c *Core) { c.cfg.Runs++ },
	} {
		c := base.Copy()
		if !Same(base, c) || !Same(c, base) {
			t.Errorf("a copy is the same")
		}
		change(c)
		if Same(base, c) || Same(c, base) {
			t.Errorf("change %d", i)
		}
	}
	if l := base.Picks(0); len(l) != 2 {
		t.Errorf("a copy's change is seen: %v", l)
	}
	call, _, _ := base.Call(0, 1)
	call.Reqs[0] = 9
	if again, _, _ := base.Call(0, 1); again.Reqs[0] != 0 {
		t.Errorf("memory is shared")
	}
	if Same(base, nil) || Same(nil, base) || !Same(nil, nil) || Same(base, &Core{}) {
		t.Errorf("just nil is as nil")
	}
	for _, c := range []*Core{nil, {}} {
		fault, e := c.Make(0, api.Call{Kind: api.CkBarrier})
		call, x, ok := c.Call(0, 0)
		y, e2 := c.Tell(0)
		if fault || e != api.ErrNil || ok || e2 != api.ErrNil || !reflect.DeepEqual(call, api.Call{}) || !reflect.DeepEqual(x, y) || c.End(0) != api.ErrNil || c.Do(api.Pick{}) != api.ErrNil {
			t.Errorf("nobody's: errors")
		}
		if c.Calls(0) != 0 || c.Open(0) || c.Over(0) || c.Ended(0) || c.Picks(0) != nil || c.Point(0, 0) || c.Left(0) != nil || c.Waiting(0) != nil || c.Messages() != nil || c.Odd() != nil || c.Copy() != nil {
			t.Errorf("nobody's")
		}
	}
}
