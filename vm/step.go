package vm

import (
	"dispatcher/api"
	"dispatcher/code"
)

// Places of a call's number (5).
const (
	argsUnit = 32
	opUnit   = 1024
)

func (r *Rank) push(n int64) { r.stack = append(r.stack, n) }

func (r *Rank) pop() int64 {
	top := len(r.stack) - 1
	n := r.stack[top]
	r.stack = r.stack[:top]
	return n
}

func (r *Rank) endAt(fault uint8) { r.is, r.fault = atFault, fault }

// step does the next instruction.
func (r *Rank) step() {
	x := r.program.Code[r.place]
	r.place++
	if x.Op >= code.CoMul && x.Op <= code.CoOther {
		right := r.pop()
		n, ok := r.sides[x.Op-code.CoMul](r.pop(), right)
		if !ok {
			r.endAt(api.FtDiv)
			return
		}
		r.push(n)
		return
	}
	switch x.Op {
	case code.CoNum:
		r.push(x.N)
	case code.CoGet:
		r.push(r.vars[x.N])
	case code.CoSet:
		r.vars[x.N] = r.pop()
	case code.CoWord:
		r.push(r.word(x.N))
	case code.CoNeg:
		r.push(-r.pop())
	case code.CoNot:
		r.push(truth(r.pop() == 0))
	case code.CoTruth:
		r.push(truth(r.pop() != 0))
	case code.CoPop:
		r.pop()
	case code.CoDup:
		r.push(r.stack[len(r.stack)-1])
	case code.CoAt, code.CoPut, code.CoRow:
		r.reach(x)
	case code.CoJump, code.CoZero, code.CoElse:
		r.jump(x)
	default:
		r.leave(x)
	}
}

// reach does what needs a place of an array, or of the row.
func (r *Rank) reach(x code.Instr) {
	value := int64(0)
	if x.Op == code.CoPut {
		value = r.pop()
	}
	place := r.pop()
	cells := r.last.Row
	if x.Op != code.CoRow {
		base := r.bases[x.N]
		cells = r.cells[base : base+r.program.Arrays[x.N]]
	}
	if place < 0 || place >= int64(len(cells)) {
		r.endAt(api.FtIndex)
		return
	}
	if x.Op == code.CoPut {
		cells[place] = value
		return
	}
	r.push(cells[place])
}

func (r *Rank) jump(x code.Instr) {
	if x.Op == code.CoZero && r.pop() != 0 || x.Op == code.CoElse && r.pop() == 0 {
		return
	}
	r.place = int(x.N)
}

// leave does what may end the rank, or have it wait.
func (r *Rank) leave(x code.Instr) {
	switch x.Op {
	case code.CoAssert:
		if r.pop() == 0 {
			r.is = failed
		}
	case code.CoCall:
		base := len(r.stack) - int(x.N%opUnit/argsUnit)
		r.call = call(uint8(x.N%argsUnit), uint8(x.N/opUnit), r.stack[base:])
		r.stack = r.stack[:base]
		r.is = waits
	case code.CoStop:
		r.is = isDone
	}
}

func (r *Rank) word(n int64) int64 {
	switch n {
	case 0:
		return int64(r.number)
	case 1:
		return int64(r.size)
	case 2:
		return api.Any
	case 3:
		return r.last.Value
	case 4:
		return int64(r.last.Peer)
	case 5:
		return int64(r.last.Tag)
	case 6:
		return truth(r.last.Flag)
	case 7:
		return int64(r.last.Index)
	case 8:
		return int64(r.last.Req)
	}
	return int64(r.last.Comm)
}

// call tells the call of a kind with those arguments.
func call(kind, op uint8, l []int64) api.Call {
	c := api.Call{Kind: kind, Op: op}
	if kind >= api.CkWait && kind <= api.CkTestany {
		for _, n := range l {
			c.Reqs = append(c.Reqs, int(n))
		}
		return c
	}
	c.Comm = int(l[0])
	switch kind {
	case api.CkSend, api.CkSsend, api.CkBsend, api.CkIsend, api.CkIssend:
		c.Peer, c.Tag, c.Value, c.Size = int(l[1]), int(l[2]), l[3], int(l[4])
	case api.CkRecv, api.CkIrecv, api.CkProbe, api.CkIprobe:
		c.Peer, c.Tag = int(l[1]), int(l[2])
	case api.CkBcast, api.CkGather, api.CkReduce:
		c.Root, c.Value = int(l[1]), l[2]
	case api.CkAllreduce:
		c.Value = l[1]
	case api.CkSplit:
		c.Color, c.Key = int(l[1]), int(l[2])
	}
	return c
}
