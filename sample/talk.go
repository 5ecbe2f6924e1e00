package sample

import (
	"strconv"
	"strings"
)

// talker makes a program whose ranks send messages to one another, each by statements of its own.
type talker struct {
	*Dice
	b     strings.Builder
	ranks int
	// requests is how many requests the rank has by now.
	requests int
	// busy has many messages be on their way, and most receives be of any rank.
	busy bool
}

// Talk tells the text of a small program without loops for so many ranks, of a seed: receives of any rank, polls and waits decide what becomes of it; steps is about how many calls a rank makes.
func Talk(seed, ranks, steps int) string {
	t := &talker{Dice: Seeded(seed), ranks: ranks, busy: seed%2 == 0}
	t.b.WriteString("int x;\n")
	for rank := range ranks {
		t.requests = 0
		t.b.WriteString("if rank == " + strconv.Itoa(rank) + " {\n")
		for range 1 + t.Throw(steps) {
			t.b.WriteString("  " + t.statement() + "\n")
		}
		t.b.WriteString("}\n")
	}
	if t.Throw(4) == 0 {
		t.b.WriteString(t.One("barrier(0);", "reduce(0, 0, x, max);", "bcast(0, 1, rank);", "allreduce(0, rank, sum); assert value < 3;") + "\n")
	}
	return t.b.String()
}

func (t *talker) number(n int) string { return strconv.Itoa(t.Throw(n)) }

// sender tells any, or now and then a rank.
func (t *talker) sender() string {
	if t.Throw(3) > 0 || t.busy && t.Throw(4) > 0 {
		return "any"
	}
	return t.number(t.ranks)
}

func (t *talker) tag() string {
	if t.busy {
		return t.One("0", "any")
	}
	return t.One("0", "0", "0", "1", "any")
}

func (t *talker) send(kinds ...string) string {
	return t.One(kinds...) + "(0, " + t.number(t.ranks) + ", " + t.One("0", "0", "0", "1") + ", rank * 10 + " + t.number(3) + ", " + t.One("1", "2") + ");"
}

func (t *talker) receive(kinds ...string) string {
	return t.One(kinds...) + "(0, " + t.sender() + ", " + t.tag() + ");"
}

func (t *talker) request() string { return t.number(t.requests) }

func (t *talker) statement() string {
	if t.busy && t.Throw(3) > 0 {
		return t.One(t.send("bsend"), t.send("bsend"), t.receive("recv"), t.receive("recv", "iprobe")+t.One("", " if value > 9 { "+t.send("bsend")+" }"))
	}
	switch t.Throw(16) {
	case 0, 1, 2, 3, 4:
		return t.send("send", "send", "bsend", "bsend", "ssend")
	case 5, 6, 7:
		return t.receive("recv") + t.One("", " x = value;", " if value > 9 { "+t.send("bsend")+" }", " assert value < 21;")
	case 8, 9:
		t.requests++
		return t.receive("irecv")
	case 10:
		t.requests++
		return t.send("isend", "issend")
	case 11:
		return t.receive("iprobe", "iprobe", "probe") + t.One("", " if flag { "+t.receive("recv")+" }")
	case 12:
		if t.requests > 0 {
			return t.One("wait", "test", "test") + "(" + t.request() + ");"
		}
	case 13:
		if t.requests > 1 {
			return t.One("waitany", "testany", "waitall") + "(0, 1);"
		}
	case 14:
		return t.One("barrier(0);", "bcast(0, 0, x);", "gather(0, 0, rank);", "dup(0);", "split(0, rank % 2, 0 - rank);", "x = 7;", "assert row[0] < 9;", "free(0);")
	}
	return "x = x + 1;"
}
