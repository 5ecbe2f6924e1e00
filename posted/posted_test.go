package posted

import (
	"math"
	"reflect"
	"slices"
	"testing"

	"dispatcher/api"
	"dispatcher/queue"
	"dispatcher/sample"
)

func message(from, to, call, tag int) queue.Message {
	return queue.Message{From: from, To: to, Call: call, Tag: tag, Value: int64(call * 10), Size: 1}
}

func receive(rank, call, peer, tag int) Receive {
	return Receive{Rank: rank, Call: call, Peer: peer, Tag: tag, Req: -1}
}

// TestFits: P14.1.
func TestFits(t *testing.T) {
	m := message(2, 0, 3, 5)
	for _, x := range []struct {
		r    Receive
		want bool
	}{
		{receive(0, 0, 2, 5), true}, {receive(0, 0, api.Any, 5), true}, {receive(0, 0, 2, api.Any), true}, {receive(0, 0, api.Any, api.Any), true}, {receive(1, 0, 2, 5), false}, {receive(0, 0, 1, 5), false}, {receive(0, 0, 2, 6), false},
		{Receive{Key: "x", Peer: 2, Tag: 5}, false}, {Receive{Peer: 2, Tag: 5, Done: true, Call: 9, From: 1}, true},
	} {
		if Fits(x.r, m) != x.want {
			t.Errorf("%v", x.r)
		}
	}
}

// TestPost: P14.1, P14.2.
func TestPost(t *testing.T) {
	p := New()
	for _, x := range []struct {
		r Receive
		e api.Errno
	}{
		{receive(63, 4, 63, 32767), 0}, {receive(63, 4, 0, 0), api.ErrArg}, {receive(63, 3, 0, 0), api.ErrArg}, {Receive{Key: "x", Rank: 63, Call: 5, Peer: api.Any, Tag: api.Any, Req: 7, Done: true, From: 3, Seq: 4}, 0}, {receive(0, 0, 0, 0), 0}, {receive(1, 1<<40, 0, 0), 0},
		{receive(64, 0, 0, 0), api.ErrArg}, {receive(-1, 0, 0, 0), api.ErrArg}, {receive(2, -1, 0, 0), api.ErrArg}, {receive(2, 0, 64, 0), api.ErrArg}, {receive(2, 0, -2, 0), api.ErrArg}, {receive(2, 0, 0, 32768), api.ErrArg}, {receive(2, 0, 0, -2), api.ErrArg}, {Receive{Rank: 2, Req: -2}, api.ErrArg},
	} {
		if e := p.Post(x.r); e != x.e {
			t.Errorf("%v: %d", x.r, e)
		}
	}
	want := Receive{Key: "x", Rank: 63, Call: 5, Peer: api.Any, Tag: api.Any, Req: 7}
	if r, ok := p.At(63, 5); r != want || !ok {
		t.Errorf("%v", r)
	}
	if l := p.Waiting(63); !reflect.DeepEqual(l, []Receive{receive(63, 4, 63, 32767), want}) {
		t.Errorf("%v", l)
	}
	for _, x := range [][2]int{{63, 3}, {2, 0}, {-1, 0}, {64, 0}, {0, 1}, {0, math.MinInt}, {1, math.MaxInt}, {1, -1}} {
		if r, ok := p.At(x[0], x[1]); ok || r != (Receive{}) {
			t.Errorf("%v: %v", x, r)
		}
	}
	if len(p.Waiting(2)) != 0 || len(p.Waiting(-1)) != 0 || len(p.Waiting(64)) != 0 {
		t.Errorf("nobody waits")
	}
}

// TestMay: P14.3, P14.4: the chapter's example, and edges.
func TestMay(t *testing.T) {
	p, q := New(), queue.New()
	p.Post(receive(0, 0, api.Any, 5))
	p.Post(receive(0, 1, 1, api.Any))
	a, b := message(1, 0, 0, 5), message(1, 0, 1, 6)
	q.Send(a)
	q.Send(b)
	if l := p.May(q, 0, 0); !reflect.DeepEqual(l, []queue.Message{a}) {
		t.Errorf("%v", l)
	}
	if l := p.May(q, 0, 1); len(l) != 0 {
		t.Errorf("%v", l)
	}
	for _, x := range [][4]int{{0, 1, 1, 0}, {0, 0, 1, 1}, {0, 1, 1, 1}, {0, 2, 1, 0}, {1, 0, 1, 0}, {0, 0, 2, 0}, {-1, 0, 1, 0}} {
		if e := p.Match(q, x[0], x[1], x[2], x[3]); e != api.ErrArg {
			t.Errorf("%v: %d", x, e)
		}
	}
	if len(p.May(nil, 0, 0)) != 0 || p.Match(nil, 0, 0, 1, 0) != api.ErrArg || p.Match(&queue.Queue{}, 0, 0, 1, 0) != api.ErrArg || len(p.May(q, 0, 9)) != 0 || len(p.May(q, 70, 0)) != 0 {
		t.Errorf("no queue, no receive")
	}
	if e := p.Match(q, 0, 0, 1, 0); e != api.OK {
		t.Errorf("%d", e)
	}
	if r, _ := p.At(0, 0); !r.Done || r.From != 1 || r.Seq != 0 || len(p.May(q, 0, 0)) != 0 || len(p.Waiting(0)) != 1 {
		t.Errorf("%v", r)
	}
	if m, _ := q.Find(1, 0); !m.Taken || p.Match(q, 0, 0, 1, 0) != api.ErrArg {
		t.Errorf("%v", m)
	}
	if l := p.May(q, 0, 1); !reflect.DeepEqual(l, []queue.Message{b}) {
		t.Errorf("%v", l)
	}
	q.Send(message(3, 0, 0, 9))
	q.Send(message(2, 0, 0, 9))
	p.Post(receive(0, 2, api.Any, 9))
	if l := p.May(q, 0, 2); len(l) != 2 || l[0].From != 2 || l[1].From != 3 {
		t.Errorf("%v", l)
	}
}

// TestProbe: P14.3.
func TestProbe(t *testing.T) {
	p, q := New(), queue.New()
	a, b, c := message(1, 0, 0, 5), message(1, 0, 1, 6), message(2, 0, 0, 6)
	q.Send(a)
	q.Send(b)
	q.Send(c)
	for _, x := range []struct {
		r    Receive
		want []queue.Message
	}{
		{receive(0, -9, api.Any, api.Any), []queue.Message{a, c}}, {Receive{Rank: 0, Peer: api.Any, Tag: 6, Req: -9, Done: true}, []queue.Message{b, c}}, {receive(0, 0, 1, 6), []queue.Message{b}}, {receive(0, 0, 3, 6), nil}, {receive(1, 0, api.Any, api.Any), nil},
		{receive(-1, 0, api.Any, api.Any), nil}, {receive(64, 0, api.Any, api.Any), nil}, {receive(0, 0, -2, api.Any), nil}, {receive(0, 0, api.Any, -2), nil}, {receive(0, 0, 99, 99999), nil},
	} {
		if l := p.Probe(q, x.r); !reflect.DeepEqual(l, x.want) {
			t.Errorf("%v: %v", x.r, l)
		}
	}
	p.Post(receive(0, 7, 1, api.Any))
	if l := p.Probe(q, receive(0, 3, api.Any, api.Any)); !reflect.DeepEqual(l, []queue.Message{c}) {
		t.Errorf("a receive goes ahead: %v", l)
	}
	if p.Match(q, 0, 7, 1, 0) != api.OK || len(p.Probe(q, receive(0, 3, api.Any, 5))) != 0 || len(p.Probe(q, receive(0, 3, api.Any, 6))) != 2 || len(p.Probe(nil, receive(0, 3, api.Any, 6))) != 0 {
		t.Errorf("behind the match")
	}
	if len(p.Waiting(0)) != 0 {
		t.Errorf("a probe is not posted")
	}
}

// TestCopy: P14.5, and posted receives of nobody.
func TestCopy(t *testing.T) {
	p, q := New(), queue.New()
	p.Post(receive(0, 0, 1, 5))
	q.Send(message(1, 0, 0, 5))
	c := p.Copy()
	p.Match(q, 0, 0, 1, 0)
	p.Post(receive(0, 1, 1, 5))
	if l := c.Waiting(0); !reflect.DeepEqual(l, []Receive{receive(0, 0, 1, 5)}) {
		t.Errorf("%v", l)
	}
	c.Post(receive(0, 1, 2, 6))
	if r, _ := p.At(0, 1); r != receive(0, 1, 1, 5) {
		t.Errorf("%v", r)
	}
	for _, p := range []*Posted{nil, {}} {
		r, ok := p.At(0, 0)
		if p.Post(receive(0, 0, 0, 0)) != api.ErrNil || p.Match(q, 0, 0, 0, 0) != api.ErrNil || r != (Receive{}) || ok || p.Waiting(0) != nil || p.May(q, 0, 0) != nil || p.Probe(q, receive(0, 0, 1, api.Any)) != nil || p.Copy() != nil {
			t.Errorf("nobody's")
		}
	}
}

// plain tells by the chapter's words alone whether a message may be a receive's.
func plain(all []queue.Message, posted []Receive, r Receive, m queue.Message) bool {
	if !Fits(r, m) || r.Done || m.Taken {
		return false
	}
	for _, x := range all {
		if x.Key == m.Key && x.From == m.From && x.To == m.To && x.Call < m.Call && !x.Taken && Fits(r, x) {
			return false
		}
	}
	for _, x := range posted {
		if x.Rank == r.Rank && x.Call < r.Call && !x.Done && Fits(x, m) {
			return false
		}
	}
	return true
}

// TestMany: P14.3, P14.6, P14.7, P14.8 of random rows of sends, receives and matches.
func TestMany(t *testing.T) {
	for seed := range 300 {
		d := sample.Seeded(seed)
		p, q := New(), queue.New()
		var all []queue.Message
		var receives []Receive
		was := map[[4]int]int{}
		for call := range 40 {
			key := d.One("", ".0")
			matched := -1
			switch d.Throw(3) {
			case 0:
				m := message(d.Throw(3), d.Throw(2), call, d.Throw(2))
				m.Key = key
				q.Send(m)
				all = append(all, m)
			case 1:
				r := receive(d.Throw(2), call, d.Throw(4)-1, d.Throw(3)-1)
				r.Key = key
				p.Post(r)
				receives = append(receives, r)
			default:
				matched = match(t, d, p, q, all, receives)
			}
			is := map[[4]int]int{}
			owner := map[[2]int]int{}
			for _, r := range receives {
				senders := map[int]int{}
				for _, m := range p.May(q, r.Rank, r.Call) {
					is[[4]int{r.Rank, r.Call, m.From, m.Call}] = 1
					senders[m.From]++
					owner[[2]int{m.From, m.Call}]++
					if senders[m.From] > 1 || owner[[2]int{m.From, m.Call}] > 1 {
						t.Fatalf("%d: %v has two", seed, m)
					}
				}
				for _, m := range all {
					if plain(all, receives, r, m) != (is[[4]int{r.Rank, r.Call, m.From, m.Call}] == 1) {
						t.Fatalf("%d: %v and %v", seed, r, m)
					}
				}
				if l := p.May(q, r.Rank, r.Call); !slices.IsSortedFunc(l, func(a, b queue.Message) int { return a.From - b.From }) {
					t.Fatalf("%v", l)
				}
			}
			for x := range was {
				if x[1] != matched && is[x] == 0 {
					t.Fatalf("%d: %v is lost", seed, x)
				}
			}
			was = is
		}
	}
}

// match matches some receive, and tells its call.
func match(t *testing.T, d *sample.Dice, p *Posted, q *queue.Queue, all []queue.Message, receives []Receive) int {
	if len(receives) == 0 {
		return -1
	}
	i := d.Throw(len(receives))
	l := p.May(q, receives[i].Rank, receives[i].Call)
	if len(l) == 0 {
		return -1
	}
	m := l[d.Throw(len(l))]
	if e := p.Match(q, receives[i].Rank, receives[i].Call, m.From, m.Call); e != api.OK {
		t.Fatalf("%v: %d", m, e)
	}
	receives[i].Done = true
	for k := range all {
		if all[k].From == m.From && all[k].Call == m.Call {
			all[k].Taken = true
		}
	}
	return receives[i].Call
}
