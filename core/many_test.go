package core

import (
	"reflect"
	"slices"
	"testing"

	"dispatcher/api"
	"dispatcher/posted"
	"dispatcher/queue"
	"dispatcher/sample"
)

func anyCall(d *sample.Dice) api.Call {
	n := func(k int) int { return d.Throw(k) }
	often := []uint8{api.CkBsend, api.CkBsend, api.CkIsend, api.CkIsend, api.CkIssend, api.CkIrecv, api.CkIrecv, api.CkIrecv, api.CkTest, api.CkTestany, api.CkIprobe, api.CkWaitany}
	call := api.Call{Kind: often[n(len(often))], Peer: n(3), Tag: n(2), Value: int64(n(9)), Size: 1 + n(3), Op: uint8(n(2)), Root: n(3), Color: n(3) - 1, Key: n(2)}
	switch n(20) {
	case 0, 1:
		call.Kind = uint8(1 + n(22))
	case 2:
		call.Comm = n(3)
	}
	if receives := call.Kind == api.CkRecv || call.Kind == api.CkIrecv || call.Kind == api.CkProbe || call.Kind == api.CkIprobe; receives && n(2) == 0 {
		call.Peer = api.Any
	}
	for range 1 + n(2) {
		call.Reqs = append(call.Reqs, n(6))
	}
	return call
}

// step does something with a core: makes, tells or picks; it tells the pick, if it was one.
func step(t *testing.T, d *sample.Dice, c *Core) api.Pick {
	rank := d.Throw(3)
	if c.Over(rank) {
		if _, e := c.Tell(rank); e != api.OK {
			t.Fatal(e)
		}
		return api.Pick{}
	}
	if !c.Open(rank) && d.Throw(2) == 0 {
		c.Make(rank, anyCall(d))
		return api.Pick{}
	}
	l := c.Picks(rank)
	if len(l) == 0 {
		return api.Pick{}
	}
	p := l[d.Throw(len(l))]
	do(t, c, p)
	return p
}

func allPicks(c *Core) (l []api.Pick) {
	for rank := range 3 {
		l = append(l, c.Picks(rank)...)
	}
	return l
}

func overs(c *Core) (l [3]bool) {
	for rank := range l {
		l[rank] = c.Over(rank)
	}
	return l
}

// TestMany: P17.7, P17.8, P17.9 of random calls.
func TestMany(t *testing.T) {
	most := 0
	for seed := range 300 {
		d := sample.Seeded(seed)
		c := made2(t, api.Config{Ranks: 3, Eager: d.Throw(3), Loose: d.Throw(2) == 0, Polls: d.Throw(4)})
		for range 80 {
			was, over := allPicks(c), overs(c)
			calls := [3]int{c.Calls(0), c.Calls(1), c.Calls(2)}
			p := step(t, d, c)
			now := allPicks(c)
			for _, x := range was {
				if !slices.Contains(now, x) && (x.Rank != p.Rank || x.Call != p.Call) {
					t.Fatalf("%d: %v is lost by %v", seed, x, p)
				}
			}
			for rank := range over {
				if over[rank] && !c.Over(rank) && c.Open(rank) && calls[rank] == c.Calls(rank) {
					t.Fatalf("%d: %d isn't over any more", seed, rank)
				}
			}
			orders(t, d, c, now)
			most = max(most, len(now))
		}
		nothing(t, c)
	}
	if most < 6 {
		t.Errorf("%d picks only", most)
	}
}

// orders does two picks in either order.
func orders(t *testing.T, d *sample.Dice, c *Core, l []api.Pick) {
	if len(l) < 2 {
		return
	}
	x, y := l[d.Throw(len(l))], l[d.Throw(len(l))]
	if x.Rank == y.Rank && x.Call == y.Call {
		return
	}
	a, b := c.Copy(), c.Copy()
	do(t, a, x)
	do(t, a, y)
	do(t, b, y)
	do(t, b, x)
	if !Same(a, b) || !reflect.DeepEqual(allPicks(a), allPicks(b)) {
		t.Fatalf("%v and %v", x, y)
	}
}

// nothing asks whether each message that was taken was sent and received.
func nothing(t *testing.T, c *Core) {
	took := map[[2]int]int{}
	for rank := range 3 {
		for k := range c.Calls(rank) {
			r, ok := c.posted.At(rank, k)
			if !ok || !r.Done {
				continue
			}
			m, ok := c.queue.Find(r.From, r.Seq)
			call, _, _ := c.Call(r.From, r.Seq)
			if !ok || !m.Taken || !posted.Fits(r, m) || call.Kind > api.CkIssend || call.Value != m.Value || call.Tag != m.Tag {
				t.Fatalf("%v took %v of %v", r, m, call)
			}
			if took[[2]int{r.From, r.Seq}]++; took[[2]int{r.From, r.Seq}] > 1 {
				t.Fatalf("%v was taken twice", m)
			}
		}
	}
	sent := 0
	for rank := range 3 {
		for k := range c.Calls(rank) {
			if m, ok := c.queue.Find(rank, k); ok {
				sent++
				if m.Taken != (took[[2]int{rank, k}] == 1) {
					t.Fatalf("%v", m)
				}
			}
		}
	}
	if left := c.Messages(); len(left)+len(took) != sent || slices.ContainsFunc(left, func(m queue.Message) bool { return m.Taken }) {
		t.Fatalf("%d sent, %d taken", sent, len(took))
	}
}
