// Package sample makes programs' texts for tests: of each seed always the same one.
package sample

import (
	"strconv"
	"strings"
)

// Dice tells numbers that look as if they were thrown; the next ones hang on its value alone.
type Dice uint64

// Throw tells a number from 0 to n - 1.
func (d *Dice) Throw(n int) int {
	*d = *d*6364136223846793005 + 1442695040888963407
	x := uint64(*d)
	x ^= x >> 29
	return int((x >> 11) % uint64(n))
}

// Seeded tells dice of a seed.
func Seeded(seed int) *Dice {
	d := Dice(uint64(seed)*2862933555777941757 + 3037000493)
	d.Throw(2)
	d.Throw(2)
	return &d
}

// One tells one of several texts.
func (d *Dice) One(l ...string) string { return l[d.Throw(len(l))] }

// writer makes a program of statements of all kinds.
type writer struct {
	*Dice
	b      strings.Builder
	vars   []string
	arrays []string
	loops  bool
}

// Program tells a program's text, with all kinds of statements and expressions, of a seed; its loops are all counted, unless loops is set.
func Program(seed int, loops bool) string {
	w := &writer{Dice: Seeded(seed), loops: loops}
	w.declare()
	for n := 1 + w.Throw(6); n > 0; n-- {
		w.statement(0)
	}
	return w.b.String()
}

func (w *writer) say(l ...string) {
	for _, s := range l {
		w.b.WriteString(s)
	}
}

func (w *writer) declare() {
	for i := w.Throw(4); i >= 0; i-- {
		w.vars = append(w.vars, "v"+strconv.Itoa(i))
		w.say("int v", strconv.Itoa(i), ";", w.One(" ", "\n", "\t# a remark; int\n"))
	}
	for i := w.Throw(3); i >= 0; i-- {
		w.arrays = append(w.arrays, "a"+strconv.Itoa(i))
		w.say("int a", strconv.Itoa(i), "[", strconv.Itoa(1+w.Throw(5)), "];", w.One("", "\n"))
	}
}

func (w *writer) block(deep int) {
	w.say("{", w.One("", " ", "\n"))
	for n := w.Throw(3); n > 0; n-- {
		w.statement(deep + 1)
	}
	w.say("}", w.One("", " ", "\n"))
}

func (w *writer) statement(deep int) {
	kind := w.Throw(12)
	if deep > 3 && kind > 6 {
		kind = w.Throw(6)
	}
	switch kind {
	case 0, 1, 2:
		w.say(w.One(w.vars...), w.One("=", " = "), w.Expr(3), ";", w.One("", " ", "\n"))
	case 3:
		w.say(w.One(w.arrays...), "[", w.Expr(1), "] = ", w.Expr(2), ";\n")
	case 4:
		w.say("assert ", w.Expr(2), " || 1;")
	case 5, 6:
		w.call()
	case 7, 8:
		w.say("if ", w.Expr(2), w.One("", " "))
		w.block(deep)
		if w.Throw(2) == 0 {
			w.say("else ")
			w.block(deep)
		}
	case 9:
		w.say("for ", w.One(w.vars...), " < ", w.One("1", "2", "3", "size"), " ")
		w.block(deep)
	case 10:
		if w.loops {
			w.say("while ", w.Expr(2), " ")
			w.block(deep)
		}
	default:
		if w.Throw(3) == 0 {
			w.say("stop;")
		}
	}
}

func (w *writer) call() {
	arguments := 0
	last := ""
	word := w.One("send", "ssend", "bsend", "isend", "issend", "recv", "irecv", "probe", "iprobe", "wait", "test", "waitall", "waitany", "testany",
		"barrier", "dup", "free", "bcast", "gather", "reduce", "allreduce", "split")
	switch word {
	case "send", "ssend", "bsend", "isend", "issend":
		arguments = 5
	case "recv", "irecv", "probe", "iprobe", "bcast", "gather", "split":
		arguments = 3
	case "wait", "test", "barrier", "dup", "free":
		arguments = 1
	case "waitall", "waitany", "testany":
		arguments = 1 + w.Throw(8)
	case "reduce":
		arguments, last = 3, ", "+w.One("sum", "max", "min")
	case "allreduce":
		arguments, last = 2, ", "+w.One("sum", "max", "min")
	}
	l := make([]string, arguments)
	for i := range l {
		l[i] = w.Expr(1)
	}
	w.say(word, w.One("(", " ( "), strings.Join(l, w.One(",", ", ")), last, ");", w.One("", "\n"))
}

// Expr tells an expression's text.
func (w *writer) Expr(deep int) string {
	if deep <= 0 {
		return w.leaf()
	}
	switch w.Throw(8) {
	case 0:
		return w.leaf()
	case 1:
		return w.One("-", "!", "- ") + "(" + w.Expr(deep-1) + ")"
	case 2:
		return w.One(w.arrays...) + "[" + w.Expr(deep-1) + "]"
	case 3:
		return "(" + w.Expr(deep-1) + ")" + w.One("/", "%") + "(" + w.Expr(deep-1) + ")"
	case 4:
		return "(" + w.Expr(deep-1) + ") " + w.One("<", "<=", ">", ">=", "==", "!=") + " (" + w.Expr(deep-1) + ")"
	}
	return w.leaf() + w.One("+", " - ", "*", " && ", "||") + "(" + w.Expr(deep-1) + ")" + w.One("", "+1")
}

func (w *writer) leaf() string {
	switch w.Throw(6) {
	case 0, 1:
		return strconv.Itoa(w.Throw(4))
	case 2:
		return w.One("999999999999999999", "7", "row[0]")
	case 3:
		return w.One("rank", "size", "any", "value", "peer", "tag", "flag", "index", "req", "comm")
	}
	return w.One(w.vars...)
}
