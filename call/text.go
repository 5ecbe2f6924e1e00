package call

import (
	"strconv"
	"strings"

	"dispatcher/api"
	"dispatcher/tree"
)

var reductions = [...]string{api.RdSum: "sum", api.RdMax: "max", api.RdMin: "min"}

// Text: P16.3.
func Text(c api.Call) (string, api.Errno) {
	fields := used(c.Kind)
	if len(fields) == 0 || !Same(c, Trim(c)) || int(c.Op) >= len(reductions) {
		return "", api.ErrCall
	}
	if fields[0] == ofReqs {
		if !asMany(c) {
			return "", api.ErrCall
		}
		return word(c.Kind) + "(" + row(c.Reqs...) + ")", api.OK
	}
	var numbers []int64
	last := ""
	for _, field := range fields {
		if field == ofOp {
			last = ", " + reductions[c.Op]
		} else {
			numbers = append(numbers, number(c, field))
		}
	}
	return word(c.Kind) + "(" + row(numbers...) + last + ")", api.OK
}

// Parse: P16.3.
func Parse(s string) (api.Call, api.Errno) {
	c, ok := read(s)
	if !ok {
		return api.Call{}, api.ErrCall
	}
	// What isn't written just so, noughts ahead for example, is found by its text.
	if own, e := Text(c); e != api.OK || own != s {
		return api.Call{}, api.ErrCall
	}
	return c, api.OK
}

// Told: P16.4.
func Told(kind uint8, x api.Result) string {
	flag := 0
	if x.Flag {
		flag = 1
	}
	got := "value " + row(x.Value) + " peer " + row(x.Peer) + " tag " + row(x.Tag)
	switch kind {
	case api.CkIsend, api.CkIssend, api.CkIrecv:
		return "req " + row(x.Req)
	case api.CkRecv, api.CkWait:
		return got
	case api.CkWaitall:
		return got + " " + values(x.Row)
	case api.CkWaitany, api.CkTest, api.CkTestany:
		return "flag " + row(flag) + " index " + row(x.Index) + " " + got
	case api.CkProbe, api.CkIprobe:
		return "flag " + row(flag) + " peer " + row(x.Peer) + " tag " + row(x.Tag)
	case api.CkBcast, api.CkReduce, api.CkAllreduce:
		return "value " + row(x.Value)
	case api.CkGather:
		return values(x.Row)
	case api.CkDup, api.CkSplit:
		return "comm " + row(x.Comm)
	}
	return ""
}

// row tells numbers in their order, as a call has them.
func row[T int | int64](l ...T) string {
	var b strings.Builder
	for i, n := range l {
		if i > 0 {
			b.WriteString(", ")
		}
		b.WriteString(strconv.FormatInt(int64(n), 10))
	}
	return b.String()
}

func values(l []int64) string {
	return strings.TrimSuffix("row "+strings.ReplaceAll(row(l...), ", ", " "), " ")
}

// read tells a call that is written so, or nearly so.
func read(s string) (c api.Call, ok bool) {
	word, rest, _ := strings.Cut(s, "(")
	c.Kind = tree.Call(word)
	items := strings.Split(strings.TrimSuffix(rest, ")"), ", ")
	fields := used(c.Kind)
	if len(fields) == 0 {
		return api.Call{}, false
	}
	if fields[0] != ofReqs && len(items) != len(fields) {
		return api.Call{}, false
	}
	for i, item := range items {
		if fields[0] != ofReqs && fields[i] == ofOp {
			c.Op = reduction(item)
			continue
		}
		n, err := strconv.ParseInt(item, 10, 64)
		if err != nil {
			return api.Call{}, false
		}
		if fields[0] == ofReqs {
			c.Reqs = append(c.Reqs, int(n))
		} else {
			set(&c, fields[i], n)
		}
	}
	return c, true
}

func reduction(word string) uint8 {
	for op, w := range reductions {
		if w == word {
			return uint8(op)
		}
	}
	return 0
}

// word tells the word of a kind of calls.
func word(kind uint8) string {
	return [...]string{
		api.CkSend: "send", api.CkSsend: "ssend", api.CkBsend: "bsend", api.CkIsend: "isend", api.CkIssend: "issend",
		api.CkRecv: "recv", api.CkIrecv: "irecv",
		api.CkWait: "wait", api.CkWaitall: "waitall", api.CkWaitany: "waitany", api.CkTest: "test", api.CkTestany: "testany",
		api.CkProbe: "probe", api.CkIprobe: "iprobe",
		api.CkBarrier: "barrier", api.CkBcast: "bcast", api.CkReduce: "reduce", api.CkAllreduce: "allreduce", api.CkGather: "gather",
		api.CkDup: "dup", api.CkSplit: "split", api.CkFree: "free",
	}[kind]
}
