package verdict

import (
	"reflect"
	"slices"
	"testing"

	"dispatcher/api"
	"dispatcher/fence"
	"dispatcher/front"
	"dispatcher/inter"
	"dispatcher/posted"
	"dispatcher/queue"
	"dispatcher/sample"
	"dispatcher/tree"
)

// ended tells a terminal state: decisions come as the dice tell.
func ended(t *testing.T, s string, cfg api.Config, d *sample.Dice) *inter.State {
	t.Helper()
	p, w := front.Compile([]byte(s))
	state, e := inter.New(p, cfg)
	if w != (tree.Wrong{}) || e != api.OK {
		t.Fatalf("%q: %v %d", s, w, e)
	}
	for {
		fence.To(state, 10000)
		l := state.Enabled()
		if len(l) == 0 {
			return state
		}
		state.Do(l[d.Throw(len(l))])
	}
}

// TestOf: P27.1, P27.2: what is told.
func TestOf(t *testing.T) {
	done, runs := End{How: api.EdDone}, End{}
	for s, x := range map[string]struct {
		want  Verdict
		kinds uint8
	}{
		"stop;": {Verdict{Ends: []End{done, done}}, 0},
		"recv(0, 1 - rank, 0); send(0, 1 - rank, 0, 0, 1);":     {Verdict{Ends: []End{runs, runs}, Stuck: []Stuck{{0, 0, api.CkRecv, WyRecv}, {1, 0, api.CkRecv, WyRecv}}, Waiting: []posted.Receive{{Rank: 0, Peer: 1, Req: -1}, {Rank: 1, Peer: 0, Req: -1}}}, KDeadlock},
		"if rank { bsend(0, 0, 3, 7, 1); }":                     {Verdict{Ends: []End{done, done}, Orphans: []queue.Message{{From: 1, To: 0, Tag: 3, Value: 7, Size: 1}}}, KOrphan},
		"if rank { irecv(0, 0, 3); isend(0, 1, 3, 0, 1); }":     {Verdict{Ends: []End{done, done}, Left: []Leak{{1, 0}, {1, 1}}, Waiting: []posted.Receive{{Rank: 1, Peer: 0, Tag: 3}}, Orphans: []queue.Message{{From: 1, To: 1, Call: 1, Tag: 3, Size: 1}}}, KLeft | KOrphan},
		"if rank { assert 0; } else { assert 1 / 0; }":          {Verdict{Ends: []End{{api.EdFault, api.FtDiv}, {How: api.EdFailed}}}, KFailed | KFault},
		"if rank { barrier(0); } else { dup(0); }":              {Verdict{Ends: []End{runs, runs}, Stuck: []Stuck{{0, 0, api.CkDup, WyTogether}, {1, 0, api.CkBarrier, WyTogether}}, Odd: []string{".0"}}, KDeadlock | KOdd},
		"if rank { iprobe(0, 0, 0); }":                          {Verdict{Ends: []End{done, runs}, Stuck: []Stuck{{1, 0, api.CkIprobe, WyPoll}}}, KPoll},
		"if rank { iprobe(0, 0, 0); } else { probe(0, 1, 0); }": {Verdict{Ends: []End{runs, runs}, Stuck: []Stuck{{0, 0, api.CkProbe, WyProbe}, {1, 0, api.CkIprobe, WyPoll}}}, KPoll | KDeadlock},
		"if rank { ssend(0, 0, 0, 0, 1); } else { free(3); }":   {Verdict{Ends: []End{{api.EdFault, api.FtCall}, runs}, Stuck: []Stuck{{1, 0, api.CkSsend, WySend}}, Orphans: []queue.Message{{From: 1, Size: 1}}}, KDeadlock | KFault | KOrphan},
		"if rank { irecv(0, 0, 0); wait(0); }":                  {Verdict{Ends: []End{done, runs}, Stuck: []Stuck{{1, 1, api.CkWait, WyWait}}, Left: []Leak{{1, 0}}, Waiting: []posted.Receive{{Rank: 1}}}, KDeadlock | KLeft},
	} {
		v, e := Of(ended(t, s, api.Config{Ranks: 2, Steps: 90}, sample.Seeded(1)))
		if e != api.OK || !reflect.DeepEqual(v, x.want) || v.Kinds() != x.kinds || v.Clean() != (x.kinds == 0) {
			t.Errorf("%s: %v %d, kinds %d", s, v, e, v.Kinds())
		}
	}
	p, _ := front.Compile([]byte("stop;"))
	first, _ := inter.New(p, api.Config{Ranks: 1, Steps: 1})
	for _, x := range []struct {
		s *inter.State
		e api.Errno
	}{{nil, api.ErrNil}, {&inter.State{}, api.ErrNil}, {first, api.ErrArg}} {
		if v, e := Of(x.s); e != x.e || !reflect.DeepEqual(v, Verdict{}) {
			t.Errorf("%d: %v", e, v)
		}
	}
}

// TestWhy: P27.1, P27.2.
func TestWhy(t *testing.T) {
	want := map[uint8]uint8{api.CkSend: WySend, api.CkSsend: WySend, api.CkRecv: WyRecv, api.CkWait: WyWait, api.CkWaitall: WyWait, api.CkWaitany: WyWait, api.CkTest: WyPoll, api.CkTestany: WyPoll, api.CkProbe: WyProbe, api.CkIprobe: WyPoll,
		api.CkBarrier: WyTogether, api.CkBcast: WyTogether, api.CkReduce: WyTogether, api.CkAllreduce: WyTogether, api.CkGather: WyTogether, api.CkDup: WyTogether, api.CkSplit: WyTogether}
	for kind := 0; kind < 256; kind++ {
		if Why(uint8(kind)) != want[uint8(kind)] {
			t.Errorf("%d: %d", kind, Why(uint8(kind)))
		}
	}
	if l := Words(255); !slices.Equal(l, []string{"deadlock", "poll", "failed", "fault", "odd", "left", "orphan"}) {
		t.Errorf("%v", l)
	}
	if l := Words(KOrphan | KPoll); !slices.Equal(l, []string{"poll", "orphan"}) || len(Words(0)) != 0 || len(Words(128)) != 0 {
		t.Errorf("%v", l)
	}
	if k := (Verdict{Stuck: []Stuck{{}}, Ends: []End{{}, {How: 9}}, Waiting: make([]posted.Receive, 1)}).Kinds(); k != KDeadlock {
		t.Errorf("%d", k)
	}
	if !(Verdict{Waiting: make([]posted.Receive, 1)}).Clean() || !(Verdict{}).Clean() {
		t.Errorf("clean")
	}
}

// TestSame: P27.3.
func TestSame(t *testing.T) {
	full := func() Verdict {
		return Verdict{Ends: []End{{1, 0}}, Stuck: []Stuck{{1, 2, 3, 4}}, Left: []Leak{{1, 2}}, Waiting: []posted.Receive{{Call: 4}}, Orphans: []queue.Message{{Call: 4}}, Odd: []string{"x"}}
	}
	for i, change := range []func(*Verdict){
		func(v *Verdict) { v.Ends[0].How++ }, func(v *Verdict) { v.Ends[0].Fault++ }, func(v *Verdict) { v.Ends = nil }, func(v *Verdict) { v.Stuck[0].Rank++ }, func(v *Verdict) { v.Stuck[0].Call++ }, func(v *Verdict) { v.Stuck[0].Kind++ }, func(v *Verdict) { v.Stuck[0].Why++ },
		func(v *Verdict) { v.Left[0].Req++ }, func(v *Verdict) { v.Left = append(v.Left, Leak{}) }, func(v *Verdict) { v.Waiting[0].Tag++ }, func(v *Verdict) { v.Orphans[0].Value++ }, func(v *Verdict) { v.Odd[0] = "y" }, func(v *Verdict) { v.Odd = nil },
	} {
		v := full()
		if !Same(v, full()) {
			t.Errorf("the same")
		}
		change(&v)
		if Same(v, full()) || Same(full(), v) {
			t.Errorf("change %d", i)
		}
	}
	if !Same(Verdict{}, Verdict{Odd: []string{}, Left: []Leak{}}) {
		t.Errorf("none and empty")
	}
}

// TestMany: P27.4, P27.5, P27.6, and P6 of the whole.
func TestMany(t *testing.T) {
	kinds := uint8(0)
	for seed := range 500 {
		d := sample.Seeded(seed)
		ranks := 2 + d.Throw(3)
		text, cfg := sample.Talk(seed, ranks, 6), api.Config{Ranks: ranks, Steps: 99, Eager: d.Throw(2), Polls: d.Throw(3), Loose: d.Throw(2) == 0}
		s := ended(t, text, cfg, d)
		v, e := Of(s)
		if e != api.OK || len(v.Ends) != ranks {
			t.Fatalf("%d: %d", seed, e)
		}
		kinds |= v.Kinds()
		c := s.Core()
		stuck, left, waiting := 0, 0, 0
		for rank := range ranks {
			how, fault := s.End(rank)
			at := slices.IndexFunc(v.Stuck, func(x Stuck) bool { return x.Rank == rank })
			if (how == api.EdRuns) != (at >= 0) || v.Ends[rank] != (End{how, fault}) || c.Ended(rank) == (at >= 0) || c.Open(rank) != (at >= 0) || c.Over(rank) {
				t.Fatalf("%d: rank %d: %v", seed, rank, v)
			}
			if at >= 0 {
				stuck++
				call, _, ok := c.Call(rank, v.Stuck[at].Call)
				if !ok || v.Stuck[at].Call != c.Calls(rank)-1 || call.Kind != v.Stuck[at].Kind || Why(call.Kind) != v.Stuck[at].Why || v.Stuck[at].Why == WyNone {
					t.Fatalf("%d: %v", seed, v.Stuck)
				}
			}
			left += len(c.Left(rank))
			waiting += len(c.Waiting(rank))
		}
		if len(v.Stuck) != stuck || len(v.Left) != left || len(v.Waiting) != waiting || !slices.Equal(v.Orphans, c.Messages()) || !slices.Equal(v.Odd, c.Odd()) {
			t.Fatalf("%d: %v", seed, v)
		}
		if v.Clean() && (slices.ContainsFunc(v.Ends, func(e End) bool { return e != End{How: api.EdDone} }) || len(v.Waiting) > 0) {
			t.Fatalf("%d: clean: %v", seed, v)
		}
		other := ended(t, text, cfg, d)
		if w, _ := Of(other); slices.Equal(s.Signature(), other.Signature()) && !Same(v, w) {
			t.Fatalf("%d: %v %v", seed, v, w)
		}
	}
	if kinds != 127 {
		t.Errorf("%v alone", Words(kinds))
	}
}
