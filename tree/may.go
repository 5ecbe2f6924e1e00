package tree

import (
	"dispatcher/api"
	"dispatcher/scan"
)

// shape is which fields a statement of a kind has, and how many expressions.
type shape struct {
	name, turns, body, other bool
	exprs                    int
}

var shapes = [...]shape{
	SSet:    {name: true, exprs: 1},
	SPut:    {name: true, exprs: 2},
	SIf:     {exprs: 1, body: true, other: true},
	SWhile:  {exprs: 1, body: true},
	SFor:    {name: true, turns: true, body: true},
	SAssert: {exprs: 1},
	SStop:   {},
}

// May: P2.3.
func May(p Program) bool {
	for _, d := range p.Decls {
		if !scan.Name(d.Name) || d.Places < 0 || d.Places > api.MaxCells {
			return false
		}
	}
	return mayBody(p.Body, 1)
}

func mayBody(l []Stmt, deep int) bool {
	if len(l) > 0 && deep > api.MaxDeep {
		return false
	}
	for _, s := range l {
		if !mayStmt(s, deep) {
			return false
		}
	}
	return true
}

func mayStmt(s Stmt, deep int) bool {
	if s.Op == SCall {
		return mayCall(s)
	}
	if s.Op == 0 || int(s.Op) >= len(shapes) || s.Kind != 0 || s.Red != 0 {
		return false
	}
	h := shapes[s.Op]
	if h.name != scan.Name(s.Name) || !h.name && s.Name != "" || s.Turns < 0 || s.Turns > mostTurns || !h.turns && s.Turns != 0 {
		return false
	}
	if len(s.Exprs) != h.exprs || !h.body && len(s.Body) > 0 || !h.other && len(s.Else) > 0 {
		return false
	}
	return mayExprs(s.Exprs, 1) && mayBody(s.Body, deep+1) && mayBody(s.Else, deep+1)
}

func mayCall(s Stmt) bool {
	least, most := Args(s.Kind)
	if most == 0 || len(s.Exprs) < least || len(s.Exprs) > most || s.Name != "" || s.Turns != 0 || len(s.Body) > 0 || len(s.Else) > 0 {
		return false
	}
	if int(s.Red) >= len(reductions) || s.Red != 0 && !reduces(s.Kind) {
		return false
	}
	return mayExprs(s.Exprs, 1)
}

func mayExprs(l []Expr, deep int) bool {
	if len(l) > 0 && deep > api.MaxDeep {
		return false
	}
	for _, e := range l {
		if !mayExpr(e) || !mayExprs(e.Args, deep+1) {
			return false
		}
	}
	return true
}

// mayExpr goes by an expression's own fields, and how many parts it has.
func mayExpr(e Expr) bool {
	if e.Op != XNum && e.Num != 0 || e.Op > XWord && e.Name != "" {
		return false
	}
	switch e.Op {
	case XNum:
		return e.Num >= 0 && e.Num < numberEnd && e.Name == "" && len(e.Args) == 0
	case XName:
		return scan.Name(e.Name) && len(e.Args) == 0
	case XPlace:
		return scan.Name(e.Name) && len(e.Args) == 1
	case XRow:
		return e.Name == "" && len(e.Args) == 1
	case XWord:
		return asked(e.Name) && len(e.Args) == 0
	case XNeg, XNot:
		return len(e.Args) == 1
	}
	return e.Op >= XMul && e.Op <= XOr && len(e.Args) == 2
}
