package report

import (
	"strconv"

	"dispatcher/api"
	"dispatcher/call"
	"dispatcher/code"
	"dispatcher/inter"
)

// Story: P29.3.
func Story(p code.Program, cfg api.Config, l []api.Pick) ([]string, api.Errno) {
	s, e := inter.New(p, cfg)
	if e != api.OK {
		return nil, e
	}
	var lines []string
	t := teller{page: onto(&lines), program: p, state: s, open: make([]uint8, cfg.Ranks)}
	for _, x := range l {
		if e := s.Do(x); e != api.OK {
			return lines, e
		}
		t.line(x)
	}
	return lines, api.OK
}

// teller tells a line for each pick that was done.
type teller struct {
	page
	program code.Program
	state   *inter.State
	// open is the kind of each rank's call that is open; 0, if none is.
	open []uint8
}

func (t teller) line(p api.Pick) {
	switch p.Kind {
	case api.PkGo:
		t.goes(p.Rank)
	case api.PkMatch:
		t.add(strconv.Itoa(p.Rank), ".", strconv.Itoa(p.Call), " = ", strconv.Itoa(p.From), ".", strconv.Itoa(p.Seq))
	case api.PkAnswer:
		message := ""
		if kind := t.open[p.Rank]; p.Value != -1 && (kind == api.CkProbe || kind == api.CkIprobe) {
			message = " " + strconv.Itoa(p.From) + "." + strconv.Itoa(p.Seq)
		}
		t.add(strconv.Itoa(p.Rank), ".", strconv.Itoa(p.Call), " ? ", strconv.Itoa(p.Value), message)
	}
}

// goes tells what a rank was told, and what it came to.
func (t teller) goes(rank int) {
	// A rank's memory has both, and is small, where a copy of all that went on between ranks may be great.
	told, made := recall(t.program, t.state.Memory(rank))
	ahead := ""
	if was := call.Told(t.open[rank], told); was != "" {
		ahead = " < " + was
	}
	t.open[rank] = 0
	how, fault := t.state.End(rank)
	behind := End(how, fault)
	if how == api.EdRuns && made.Kind != 0 {
		t.open[rank] = made.Kind
		behind = text(made)
	} else if how == api.EdRuns {
		behind = "goes on"
	}
	t.add(strconv.Itoa(rank), ahead, " > ", behind)
}

// recall tells of a rank's memory (7) what its last call was told, and, if it waits, its call; else none.
func recall(p code.Program, memory []int64) (x api.Result, c api.Call) {
	const waits = 1
	at := 4 + int(memory[3]) + p.Vars
	for _, n := range p.Arrays {
		at += n
	}
	next := func() int64 {
		n := memory[at]
		at++
		return n
	}
	x.Flag, x.Value = next() != 0, next()
	x.Peer, x.Tag, x.Req, x.Index, x.Comm = int(next()), int(next()), int(next()), int(next()), int(next())
	for n := next(); n > 0; n-- {
		x.Row = append(x.Row, next())
	}
	if memory[0] != waits {
		return x, api.Call{}
	}
	c.Kind = uint8(next())
	c.Comm, c.Peer, c.Tag = int(next()), int(next()), int(next())
	c.Value = next()
	c.Size, c.Root, c.Op, c.Color, c.Key = int(next()), int(next()), uint8(next()), int(next()), int(next())
	for n := next(); n > 0; n-- {
		c.Reqs = append(c.Reqs, int(next()))
	}
	return x, c
}
