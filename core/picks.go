package core

import (
	"slices"

	"dispatcher/api"
	"dispatcher/queue"
)

// Picks: P17.4.
func (c *Core) Picks(rank int) []api.Pick {
	if !c.there(rank) {
		return nil
	}
	var out []api.Pick
	for _, r := range c.posted.Waiting(rank) {
		for _, m := range c.posted.May(c.queue, rank, r.Call) {
			out = append(out, api.Pick{Kind: api.PkMatch, Rank: rank, Call: r.Call, From: m.From, Seq: m.Call})
		}
	}
	m := c.last(rank)
	if m == nil || !c.ranks[rank].open || m.answered {
		return out
	}
	for _, a := range c.answers(rank, m) {
		out = append(out, api.Pick{Kind: api.PkAnswer, Rank: rank, Call: m.number, From: a.from, Seq: a.seq, Value: a.value})
	}
	return out
}

// Do: P17.4.
func (c *Core) Do(p api.Pick) api.Errno {
	if !c.made() {
		return api.ErrNil
	}
	if !slices.Contains(c.Picks(p.Rank), p) {
		return api.ErrPick
	}
	if p.Kind == api.PkMatch {
		c.match(p)
		return api.OK
	}
	m := c.find(p.Rank, p.Call)
	m.answered, m.answer = true, answer{p.Value, p.From, p.Seq}
	if p.Value == no {
		c.ranks[p.Rank].noes++
	}
	return api.OK
}

// answers tells those that may be of a last call that isn't answered; none of one that has none.
func (c *Core) answers(rank int, m *made) []answer {
	var out []answer
	if sayNo(m.call.Kind) && c.ranks[rank].noes < c.cfg.Polls {
		out = append(out, answer{value: no})
	}
	switch m.call.Kind {
	case api.CkTest, api.CkWaitany, api.CkTestany:
		for _, at := range c.ranks[rank].requests.Which(m.call.Reqs) {
			out = append(out, answer{value: at})
		}
	case api.CkProbe, api.CkIprobe:
		for _, message := range c.posted.Probe(c.queue, receive(rank, m)) {
			out = append(out, answer{0, message.From, message.Call})
		}
	}
	return out
}

// sayNo tells whether calls of a kind may be answered no.
func sayNo(kind uint8) bool {
	return kind == api.CkTest || kind == api.CkTestany || kind == api.CkIprobe
}

// match does a match that may be.
func (c *Core) match(p api.Pick) {
	c.posted.Match(c.queue, p.Rank, p.Call, p.From, p.Seq)
	message, _ := c.queue.Find(p.From, p.Seq)
	to, from := c.find(p.Rank, p.Call), c.find(p.From, p.Seq)
	c.finish(p.Rank, to, message, to.numberOf(p.From))
	c.finish(p.From, from, queue.Message{}, 0)
}

// finish completes the request of a call, if it has one that isn't complete.
func (c *Core) finish(rank int, m *made, message queue.Message, peer int) {
	if r, e := c.ranks[rank].requests.At(m.req); e == api.OK && !r.Done {
		c.ranks[rank].requests.Complete(m.req, message.Value, peer, message.Tag)
	}
}
