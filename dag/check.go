package dag

import (
	"math"

	"collator/api"
)

// wrong gives the first thing that is wrong with a term; OK: nothing is.
func (a *Arena) wrong(t api.Term) api.Errno {
	switch {
	case !formed(t):
		return api.ErrArg
	case t.Op == api.OpApp && (t.Fun < 0 || t.Fun >= len(a.funs)):
		return api.ErrRange
	case !a.hasAll(t.Kids):
		return api.ErrRange
	case !a.counted(t):
		return api.ErrCount
	case !a.fits(t):
		return api.ErrSort
	case t.Op == api.OpMul && a.unknowns(t.Kids) > 1:
		return api.ErrLine
	}
	return api.OK
}

// formed tells whether a term is one as far as that hangs on nothing else: there is its operator, and just what that needs.
func formed(t api.Term) bool {
	switch {
	case t.Op < api.OpTrue || t.Op > api.OpMul:
		return false
	case t.Op != api.OpApp && t.Fun != 0:
		return false
	case t.Op == api.OpNumber:
		return isNumeral(t.Num)
	}
	return t.Num == ""
}

// isNumeral tells whether a text is the digits of a number.
func isNumeral(text string) bool {
	const most = 10000
	if text == "" || len(text) > most {
		return false
	}
	for i := range len(text) {
		if text[i] < '0' || text[i] > '9' {
			return false
		}
	}
	return text[0] != '0' || text == "0"
}

// has tells whether there is a term at a place.
func (a *Arena) has(term int) bool { return term >= 0 && term < len(a.terms) }

func (a *Arena) hasAll(kids []int) bool {
	for _, kid := range kids {
		if !a.has(kid) {
			return false
		}
	}
	return true
}

// counted tells whether a term has as many kids as its operator, or function, takes.
func (a *Arena) counted(t api.Term) bool {
	least, most := a.takes(t)
	return len(t.Kids) >= least && len(t.Kids) <= most
}

// takes tells how few and how many kids a term of that operator, or function, has.
func (a *Arena) takes(t api.Term) (least, most int) {
	switch t.Op {
	case api.OpTrue, api.OpFalse, api.OpNumber:
		return 0, 0
	case api.OpApp:
		n := len(a.funs[t.Fun].Args)
		return n, n
	case api.OpNot:
		return 1, 1
	case api.OpIte:
		return 3, 3
	case api.OpSub:
		return 1, math.MaxInt
	}
	return 2, math.MaxInt
}

// fits tells whether each kid has the sort that it must have there.
func (a *Arena) fits(t api.Term) bool {
	for i, kid := range t.Kids {
		if a.Of(kid) != a.wants(t, i) {
			return false
		}
	}
	return true
}

// wants gives the sort that a term's kid must have.
func (a *Arena) wants(t api.Term, kid int) int {
	switch t.Op {
	case api.OpApp:
		return a.funs[t.Fun].Args[kid]
	case api.OpNot, api.OpAnd, api.OpOr, api.OpXor, api.OpImplies:
		return api.SortBool
	case api.OpIte:
		if kid == 0 {
			return api.SortBool
		}
		return a.Of(t.Kids[1])
	case api.OpEqual, api.OpDistinct:
		return a.Of(t.Kids[0])
	}
	return api.SortInt
}

// gives tells of which sort a term is.
func (a *Arena) gives(t api.Term) int {
	switch t.Op {
	case api.OpApp:
		return a.funs[t.Fun].Result
	case api.OpIte:
		return a.Of(t.Kids[1])
	case api.OpNumber, api.OpAdd, api.OpSub, api.OpMul:
		return api.SortInt
	}
	return api.SortBool
}

// unknowns tells how many of the kids aren't constant.
func (a *Arena) unknowns(kids []int) int {
	n := 0
	for _, kid := range kids {
		if !a.Constant(kid) {
			n++
		}
	}
	return n
}

// isConstant tells whether a term is a number, or one with the other sign.
func (a *Arena) isConstant(t api.Term) bool {
	if t.Op == api.OpSub && len(t.Kids) == 1 {
		return a.Constant(t.Kids[0])
	}
	return t.Op == api.OpNumber
}
