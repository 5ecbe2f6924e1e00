package code

import (
	"strconv"
	"strings"

	"dispatcher/api"
)

// Text: P5.3.
func Text(p Program) (string, api.Errno) {
	if !May(p) {
		return "", api.ErrCode
	}
	var b strings.Builder
	b.WriteString("vars " + strconv.Itoa(p.Vars) + "\narrays")
	for _, n := range p.Arrays {
		b.WriteString(" " + strconv.Itoa(n))
	}
	b.WriteString("\n")
	for _, x := range p.Code {
		b.WriteString(Name(x.Op))
		if x.N != 0 {
			b.WriteString(" " + strconv.FormatInt(x.N, 10))
		}
		b.WriteString("\n")
	}
	return b.String(), api.OK
}

// Parse: P5.3.
func Parse(s string) (Program, api.Errno) {
	p, ok := read(s)
	if !ok {
		return Program{}, api.ErrCode
	}
	// What isn't written just so, noughts ahead for example, is found by its text.
	if own, e := Text(p); e != api.OK || own != s {
		return Program{}, api.ErrCode
	}
	return p, api.OK
}

// read tells a program that is written so, or nearly so.
func read(s string) (p Program, ok bool) {
	head, rest, _ := strings.Cut(s, "\n")
	places, rest, _ := strings.Cut(rest, "\n")
	vars, err := strconv.Atoi(strings.TrimPrefix(head, "vars "))
	if err != nil {
		return Program{}, false
	}
	p.Vars = vars
	for places = strings.TrimPrefix(places, "arrays"); places != ""; {
		var one string
		one, places, _ = strings.Cut(strings.TrimPrefix(places, " "), " ")
		n, err := strconv.Atoi(one)
		if err != nil {
			return Program{}, false
		}
		p.Arrays = append(p.Arrays, n)
	}
	for rest != "" && len(p.Code) <= api.MaxCode {
		var line string
		line, rest, _ = strings.Cut(rest, "\n")
		x, ok := readInstr(line)
		if !ok {
			return Program{}, false
		}
		p.Code = append(p.Code, x)
	}
	return p, true
}

func readInstr(line string) (x Instr, ok bool) {
	name, number, has := strings.Cut(line, " ")
	if has {
		n, err := strconv.ParseInt(number, 10, 64)
		if err != nil {
			return Instr{}, false
		}
		x.N = n
	}
	for op := CoNum; op <= CoStop; op++ {
		if Name(op) == name {
			x.Op = op
			return x, true
		}
	}
	return Instr{}, false
}
