package queue

import (
	"cmp"
	"reflect"
	"slices"
	"testing"

	"dispatcher/api"
	"dispatcher/sample"
)

func message(key string, from, to, call, tag int) Message {
	return Message{Key: key, From: from, To: to, Call: call, Tag: tag, Value: int64(call * 10), Size: 1}
}

func sent(t *testing.T, q *Queue, l ...Message) {
	t.Helper()
	for _, m := range l {
		if e := q.Send(m); e != api.OK {
			t.Fatalf("%v: %d", m, e)
		}
	}
}

// TestSend: P13.1.
func TestSend(t *testing.T) {
	q := New()
	good := message("x", 63, 63, 1<<40, 32767)
	good.Size = 64
	sent(t, q, message("", 0, 0, 0, 0), good)
	for _, change := range []func(*Message){
		func(m *Message) { m.From = -1 }, func(m *Message) { m.From = 64 }, func(m *Message) { m.To = -1 }, func(m *Message) { m.To = 64 }, func(m *Message) { m.Call = -1 }, func(m *Message) { m.Tag = -1 }, func(m *Message) { m.Tag = 32768 },
		func(m *Message) { m.Size = 0 }, func(m *Message) { m.Size = 65 }, func(m *Message) { m.Taken = true }, func(m *Message) { m.From, m.Call = 0, 0 },
	} {
		m := message("x", 1, 2, 3, 4)
		change(&m)
		if e := q.Send(m); e != api.ErrArg {
			t.Errorf("%v: %d", m, e)
		}
	}
	if len(q.Left()) != 2 {
		t.Errorf("%v", q.Left())
	}
	q.Take(0, 0)
	if e := q.Send(message("y", 0, 5, 0, 0)); e != api.ErrArg {
		t.Errorf("a call sends once: %d", e)
	}
}

// TestFind: P13.2, P13.3, P13.4.
func TestFind(t *testing.T) {
	q := New()
	a, b, c, d, e, f := message("", 0, 1, 0, 5), message("", 0, 1, 1, 6), message("", 2, 1, 0, 5), message("x", 0, 1, 2, 5), message("", 0, 2, 3, 5), message("", 0, 1, 4, 6)
	sent(t, q, c, a, b, d, e, f)
	for _, x := range []struct {
		from, tag int
		want      Message
	}{{0, api.Any, a}, {0, 6, b}, {0, 5, a}, {2, 5, c}, {2, 6, Message{}}, {1, api.Any, Message{}}, {0, 7, Message{}}, {0, -2, Message{}}} {
		if m, ok := q.First("", x.from, 1, x.tag); m != x.want || ok != (x.want != Message{}) {
			t.Errorf("%v: %v %v", x, m, ok)
		}
	}
	if m, ok := q.Find(0, 2); m != d || !ok {
		t.Errorf("%v", m)
	}
	if m, ok := q.Find(1, 0); m != (Message{}) || ok {
		t.Errorf("%v", m)
	}
	if l := q.Ahead(Message{From: 0, Call: 4}); !reflect.DeepEqual(l, []Message{a, b}) {
		t.Errorf("%v", l)
	}
	if len(q.Ahead(a)) != 0 || len(q.Ahead(message("", 0, 1, 9, 5))) != 0 {
		t.Errorf("ahead of the first, of none")
	}
	if l := q.Senders("", 1); !reflect.DeepEqual(l, []int{0, 2}) || len(q.Senders("", 0)) != 0 || !reflect.DeepEqual(q.Senders("x", 1), []int{0}) {
		t.Errorf("%v", l)
	}
	if l := q.Left(); !reflect.DeepEqual(l, []Message{a, b, f, e, c, d}) {
		t.Errorf("%v", l)
	}
	if q.Take(0, 0) != api.OK || q.Take(0, 0) != api.ErrArg || q.Take(0, 9) != api.ErrArg || q.Take(2, 0) != api.OK {
		t.Errorf("take")
	}
	if m, _ := q.First("", 0, 1, api.Any); m != b {
		t.Errorf("%v", m)
	}
	a.Taken = true
	if m, ok := q.Find(0, 0); m != a || !ok {
		t.Errorf("%v", m)
	}
	if l := q.Ahead(f); !reflect.DeepEqual(l, []Message{b}) {
		t.Errorf("%v", l)
	}
	if l := q.Senders("", 1); !reflect.DeepEqual(l, []int{0}) {
		t.Errorf("%v", l)
	}
	if l := q.Left(); !reflect.DeepEqual(l, []Message{b, f, e, d}) {
		t.Errorf("%v", l)
	}
}

// TestCopy: P13.5, and queues of nobody.
func TestCopy(t *testing.T) {
	q := New()
	sent(t, q, message("", 0, 1, 0, 5), message("", 5, 1, 0, 5))
	c := q.Copy()
	q.Take(0, 0)
	sent(t, q, message("", 0, 1, 1, 5), message("", 3, 1, 0, 5))
	if m, _ := c.First("", 0, 1, api.Any); m.Call != 0 || len(c.Left()) != 2 || !reflect.DeepEqual(c.Senders("", 1), []int{0, 5}) {
		t.Errorf("%v", c.Left())
	}
	sent(t, c, message("", 0, 1, 1, 6))
	if m, _ := q.First("", 0, 1, api.Any); m.Tag != 5 || !reflect.DeepEqual(q.Senders("", 1), []int{0, 3, 5}) {
		t.Errorf("%v", m)
	}
	for _, q := range []*Queue{nil, {}} {
		m, ok := q.Find(0, 0)
		m2, ok2 := q.First("", 0, 0, api.Any)
		if q.Send(message("", 0, 0, 0, 0)) != api.ErrNil || q.Take(0, 0) != api.ErrNil || m != m2 || m != (Message{}) || ok || ok2 || q.Ahead(m) != nil || q.Senders("", 0) != nil || q.Left() != nil || q.Copy() != nil {
			t.Errorf("nobody's")
		}
	}
	if empty := New(); empty.Copy() == nil || len(empty.Left()) != 0 {
		t.Errorf("an empty one")
	}
}

// TestMany: P13.6, P13.7, P13.8: against a row of messages that is gone through.
func TestMany(t *testing.T) {
	for seed := range 200 {
		d := sample.Seeded(seed)
		q := New()
		var all []Message
		calls := map[int]int{}
		for range 60 {
			key, from, to, tag := d.One("", ".0"), d.Throw(3), d.Throw(3), d.Throw(3)
			if d.Throw(2) == 0 {
				m := message(key, from, to, calls[from], tag)
				calls[from]++
				sent(t, q, m)
				all = append(all, m)
				continue
			}
			if d.Throw(2) == 0 {
				tag = api.Any
			}
			at := slices.IndexFunc(all, func(m Message) bool {
				return m.Key == key && m.From == from && m.To == to && (tag == api.Any || tag == m.Tag)
			})
			m, ok := q.First(key, from, to, tag)
			if ok != (at >= 0) || ok && m != all[at] {
				t.Fatalf("%d: %v", seed, m)
			}
			if ok {
				q.Take(m.From, m.Call)
				all = slices.Delete(all, at, at+1)
			}
			want := slices.Clone(all)
			slices.SortStableFunc(want, func(a, b Message) int {
				return cmp.Or(cmp.Compare(a.Key, b.Key), cmp.Compare(a.From, b.From), cmp.Compare(a.To, b.To))
			})
			if l := q.Left(); !slices.Equal(l, want) {
				t.Fatalf("%d: %v, not %v", seed, l, want)
			}
		}
	}
}
