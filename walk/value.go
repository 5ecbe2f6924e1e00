package walk

import (
	"dispatcher/api"
	"dispatcher/scope"
	"dispatcher/tree"
)

// asker is what expressions are asked by.
type asker struct {
	rank, size int
	names      *scope.Table
	vars       []int64
	cells      []int64
	last       api.Result
}

// Value: P8.5.
func Value(e tree.Expr, rank, size int, last api.Result) (int64, uint8) {
	if !tree.May(tree.Program{Body: []tree.Stmt{{Op: tree.SAssert, Exprs: []tree.Expr{e}}}}) || named(e) {
		return 0, api.FtIndex
	}
	a := &asker{rank: rank, size: size, last: last}
	return a.value(e)
}

// named tells whether an expression has names.
func named(e tree.Expr) bool {
	if e.Op == tree.XName || e.Op == tree.XPlace {
		return true
	}
	for _, part := range e.Args {
		if named(part) {
			return true
		}
	}
	return false
}

// values tells what expressions come to, one by one, up to the first fault.
func (a *asker) values(l []tree.Expr) ([]int64, uint8) {
	out := make([]int64, len(l))
	for i, e := range l {
		n, fault := a.value(e)
		if fault != api.FtNone {
			return nil, fault
		}
		out[i] = n
	}
	return out, api.FtNone
}

func (a *asker) value(e tree.Expr) (int64, uint8) {
	if e.Op == tree.XAnd || e.Op == tree.XOr {
		return a.short(e)
	}
	parts, fault := a.values(e.Args)
	if fault != api.FtNone {
		return 0, fault
	}
	switch e.Op {
	case tree.XNum:
		return e.Num, api.FtNone
	case tree.XName:
		return a.vars[a.names.Find(e.Name).Slot], api.FtNone
	case tree.XPlace:
		array := a.names.Find(e.Name)
		return cell(a.cells[array.Base:array.Base+array.Places], parts[0])
	case tree.XRow:
		return cell(a.last.Row, parts[0])
	case tree.XWord:
		return a.word(e.Name), api.FtNone
	case tree.XNeg:
		return -parts[0], api.FtNone
	case tree.XNot:
		return truth(parts[0] == 0), api.FtNone
	}
	return sides(e.Op, parts[0], parts[1])
}

// short asks the right side only if the left one doesn't tell it all.
func (a *asker) short(e tree.Expr) (int64, uint8) {
	left, fault := a.value(e.Args[0])
	if fault != api.FtNone || (left != 0) == (e.Op == tree.XOr) {
		return truth(left != 0 && fault == api.FtNone), fault
	}
	right, fault := a.value(e.Args[1])
	return truth(right != 0), fault
}

func (a *asker) word(name string) int64 {
	switch name {
	case "rank":
		return int64(a.rank)
	case "size":
		return int64(a.size)
	case "any":
		return api.Any
	case "value":
		return a.last.Value
	case "peer":
		return int64(a.last.Peer)
	case "tag":
		return int64(a.last.Tag)
	case "flag":
		return truth(a.last.Flag)
	case "index":
		return int64(a.last.Index)
	case "req":
		return int64(a.last.Req)
	}
	return int64(a.last.Comm)
}

func cell(l []int64, place int64) (int64, uint8) {
	if place < 0 || place >= int64(len(l)) {
		return 0, api.FtIndex
	}
	return l[place], api.FtNone
}

func truth(is bool) int64 {
	if is {
		return 1
	}
	return 0
}

func sides(op uint8, left, right int64) (int64, uint8) {
	switch op {
	case tree.XDiv, tree.XMod:
		if right == 0 {
			return 0, api.FtDiv
		}
		if op == tree.XDiv {
			return left / right, api.FtNone
		}
		return left % right, api.FtNone
	case tree.XMul:
		return left * right, api.FtNone
	case tree.XAdd:
		return left + right, api.FtNone
	case tree.XSub:
		return left - right, api.FtNone
	}
	return truth(holds(op, left, right)), api.FtNone
}

func holds(op uint8, left, right int64) bool {
	switch op {
	case tree.XLess:
		return left < right
	case tree.XLessEq:
		return left <= right
	case tree.XMore:
		return left > right
	case tree.XMoreEq:
		return left >= right
	case tree.XSame:
		return left == right
	}
	return left != right
}
