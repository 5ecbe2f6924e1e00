package core

import (
	"dispatcher/api"
	"dispatcher/coll"
	"dispatcher/group"
	"dispatcher/posted"
	"dispatcher/queue"
	"dispatcher/request"
)

// kind is whether a call of it may be, what makes one, whether one is over, and what it is told then.
type kind struct {
	may  func(*Core, int, *made) bool
	make func(*Core, int, *made)
	over func(*Core, int, *made) bool
	tell func(*Core, int, *made) api.Result
}

// kinds stand by numbers of kinds.
func kinds() *[api.CkFree + 1]kind {
	together := kind{(*Core).mayBring, (*Core).bring, (*Core).together, (*Core).brought}
	return &[...]kind{
		api.CkSend:      {(*Core).maySend, (*Core).send, (*Core).buffered, (*Core).nothing},
		api.CkSsend:     {(*Core).maySend, (*Core).send, (*Core).taken, (*Core).nothing},
		api.CkBsend:     {(*Core).maySend, (*Core).send, (*Core).atOnce, (*Core).nothing},
		api.CkIsend:     {(*Core).mayIsend, (*Core).isend, (*Core).atOnce, (*Core).request},
		api.CkIssend:    {(*Core).mayIsend, (*Core).issend, (*Core).atOnce, (*Core).request},
		api.CkRecv:      {(*Core).mayReceive, (*Core).post, (*Core).received, (*Core).message},
		api.CkIrecv:     {(*Core).mayIrecv, (*Core).irecv, (*Core).atOnce, (*Core).request},
		api.CkWait:      {(*Core).mayWaitOne, (*Core).idle, (*Core).complete, (*Core).take},
		api.CkWaitall:   {(*Core).mayWait, (*Core).idle, (*Core).complete, (*Core).take},
		api.CkWaitany:   {(*Core).mayWait, (*Core).idle, (*Core).answered, (*Core).takeOne},
		api.CkTest:      {(*Core).mayWaitOne, (*Core).idle, (*Core).answered, (*Core).takeOne},
		api.CkTestany:   {(*Core).mayWait, (*Core).idle, (*Core).answered, (*Core).takeOne},
		api.CkProbe:     {(*Core).mayReceive, (*Core).idle, (*Core).answered, (*Core).probed},
		api.CkIprobe:    {(*Core).mayReceive, (*Core).idle, (*Core).answered, (*Core).probed},
		api.CkBarrier:   together,
		api.CkBcast:     together,
		api.CkReduce:    together,
		api.CkAllreduce: together,
		api.CkGather:    together,
		api.CkDup:       {(*Core).mayHandle, (*Core).bring, (*Core).together, (*Core).handle},
		api.CkSplit:     {(*Core).mayHandle, (*Core).bring, (*Core).together, (*Core).handle},
		api.CkFree:      {(*Core).mayFree, (*Core).free, (*Core).atOnce, (*Core).nothing},
	}
}

// waitsFor tells whether calls of a kind are of requests, not of a communicator.
func waitsFor(kind uint8) bool { return kind >= api.CkWait && kind <= api.CkTestany }

// What may be. That the communicator is there was asked ahead.

func (c *Core) maySend(rank int, m *made) bool {
	_, ok := group.Rank(m.group, m.call.Peer)
	return ok && m.call.Tag >= 0 && m.call.Tag <= api.MaxTag && m.call.Size >= 1 && m.call.Size <= api.MaxSize
}

func (c *Core) mayReceive(rank int, m *made) bool {
	_, ok := group.Rank(m.group, m.call.Peer)
	return (ok || m.call.Peer == api.Any) && m.call.Tag >= api.Any && m.call.Tag <= api.MaxTag
}

func (c *Core) mayRequest(rank int) bool { return c.ranks[rank].requests.Many() < api.MaxReqs }

func (c *Core) mayIsend(rank int, m *made) bool { return c.maySend(rank, m) && c.mayRequest(rank) }

func (c *Core) mayIrecv(rank int, m *made) bool { return c.mayReceive(rank, m) && c.mayRequest(rank) }

func (c *Core) mayWait(rank int, m *made) bool {
	return c.ranks[rank].requests.May(m.call.Reqs) == api.OK
}

func (c *Core) mayWaitOne(rank int, m *made) bool {
	return len(m.call.Reqs) == 1 && c.mayWait(rank, m)
}

func (c *Core) mayBring(rank int, m *made) bool { return coll.May(m.group, part(m.call)) }

func (c *Core) mayHandle(rank int, m *made) bool {
	return c.mayBring(rank, m) && c.ranks[rank].handles.Many() < api.MaxComms
}

func (c *Core) mayFree(rank int, m *made) bool { return true }

// What makes calls. That they may be was asked ahead: there are no errors.

func (c *Core) send(rank int, m *made) {
	to, _ := group.Rank(m.group, m.call.Peer)
	c.queue.Send(queue.Message{Key: m.group.Key, From: rank, To: to, Call: m.number, Tag: m.call.Tag, Value: m.call.Value, Size: m.call.Size})
}

func (c *Core) isend(rank int, m *made) {
	m.req, _ = c.ranks[rank].requests.Add(false, m.call.Size <= c.cfg.Eager)
	c.send(rank, m)
}

func (c *Core) issend(rank int, m *made) {
	m.req, _ = c.ranks[rank].requests.Add(false, false)
	c.send(rank, m)
}

func (c *Core) post(rank int, m *made) { c.posted.Post(receive(rank, m)) }

func (c *Core) irecv(rank int, m *made) {
	m.req, _ = c.ranks[rank].requests.Add(true, false)
	c.post(rank, m)
}

func (c *Core) idle(rank int, m *made) {}

func (c *Core) bring(rank int, m *made) { m.round, _ = c.coll.Bring(m.group, rank, part(m.call)) }

func (c *Core) free(rank int, m *made) { c.ranks[rank].handles.Free(m.call.Comm) }

// receive tells the receive of a call that is one, or a probe.
func receive(rank int, m *made) posted.Receive {
	peer := m.call.Peer
	if peer != api.Any {
		peer, _ = group.Rank(m.group, peer)
	}
	return posted.Receive{Key: m.group.Key, Rank: rank, Call: m.number, Peer: peer, Tag: m.call.Tag, Req: m.req}
}

// part tells what a call together brings: of its fields just those that its kind uses.
func part(call api.Call) coll.Part {
	p := coll.Part{Kind: call.Kind}
	switch call.Kind {
	case api.CkBcast, api.CkGather:
		p.Root, p.Value = call.Root, call.Value
	case api.CkReduce:
		p.Root, p.Value, p.Op = call.Root, call.Value, call.Op
	case api.CkAllreduce:
		p.Value, p.Op = call.Value, call.Op
	case api.CkSplit:
		p.Color, p.Key = call.Color, call.Key
	}
	return p
}

// What is over.

func (c *Core) atOnce(rank int, m *made) bool { return true }

func (c *Core) taken(rank int, m *made) bool {
	message, ok := c.queue.Find(rank, m.number)
	return ok && message.Taken
}

func (c *Core) buffered(rank int, m *made) bool {
	return m.call.Size <= c.cfg.Eager || c.taken(rank, m)
}

func (c *Core) received(rank int, m *made) bool {
	r, ok := c.posted.At(rank, m.number)
	return ok && r.Done
}

func (c *Core) complete(rank int, m *made) bool {
	return len(c.ranks[rank].requests.Which(m.call.Reqs)) == len(m.call.Reqs)
}

func (c *Core) answered(rank int, m *made) bool { return m.answered }

func (c *Core) together(rank int, m *made) bool { return c.coll.Over(m.group.Key, rank, m.round) }

// What is told.

func (c *Core) nothing(rank int, m *made) api.Result { return api.Result{} }

func (c *Core) request(rank int, m *made) api.Result { return api.Result{Req: m.req} }

func (c *Core) message(rank int, m *made) api.Result {
	r, _ := c.posted.At(rank, m.number)
	message, _ := c.queue.Find(r.From, r.Seq)
	return api.Result{Value: message.Value, Peer: m.numberOf(message.From), Tag: message.Tag}
}

// numberOf tells a rank's number in the call's communicator.
func (m *made) numberOf(rank int) int {
	n, _ := group.Number(m.group, rank)
	return n
}

func (c *Core) take(rank int, m *made) api.Result {
	l, _ := c.ranks[rank].requests.Take(m.call.Reqs)
	x := got(l)
	for _, r := range l {
		x.Row = append(x.Row, r.Value)
	}
	return x
}

// got tells what the first one of requests was completed with.
func got(l []request.Request) api.Result {
	if len(l) == 0 {
		return api.Result{}
	}
	return api.Result{Value: l[0].Value, Peer: l[0].Peer, Tag: l[0].Tag}
}

func (c *Core) takeOne(rank int, m *made) api.Result {
	at := m.answer.value
	if at == no {
		return api.Result{Index: -1}
	}
	l, _ := c.ranks[rank].requests.Take(m.call.Reqs[at : at+1])
	x := got(l)
	x.Index, x.Flag = at, m.call.Kind != api.CkWaitany
	return x
}

func (c *Core) probed(rank int, m *made) api.Result {
	if m.answer.value == no {
		return api.Result{Index: -1}
	}
	message, _ := c.queue.Find(m.answer.from, m.answer.seq)
	return api.Result{Flag: m.call.Kind == api.CkIprobe, Peer: m.numberOf(message.From), Tag: message.Tag}
}

func (c *Core) brought(rank int, m *made) api.Result {
	told, _ := c.coll.Told(m.group.Key, rank, m.round)
	return api.Result{Value: told.Value, Row: told.Row}
}

func (c *Core) handle(rank int, m *made) api.Result {
	told, _ := c.coll.Told(m.group.Key, rank, m.round)
	if !told.Has {
		return api.Result{Comm: -1}
	}
	n, _ := c.ranks[rank].handles.Add(told.Group)
	return api.Result{Comm: n}
}
