package expr

import (
	"registrar/api"
	"registrar/lex"
	"registrar/value"
)

// The calls that there are.
const (
	coalesceCall = "coalesce"
	lengthCall   = "length"
	absCall      = "abs"
)

// maxCoalesce is how many a coalesce takes.
const maxCoalesce = 4

// isRight asks whether a part is right, whatever its kids are.
func isRight(e api.Expr, slots bool) bool {
	noOp, noV, noName, kids := e.Op == 0, e.V == api.Value{}, e.Name == "", len(e.Kids)
	switch e.Kind {
	case api.Lit:
		return noOp && noName && kids == 0 && isLit(e.V)
	case api.Col:
		return noOp && noV && kids == 0 && lex.IsName(e.Name)
	case api.Par:
		return noV && noName && kids == 0 && within(e.Op, 1, api.MaxParams)
	case api.Un:
		return noV && noName && kids == 1 && within(e.Op, api.Neg, api.NotNull)
	case api.Bin:
		return noV && noName && kids == 2 && within(e.Op, api.Or, api.Cat)
	case api.In:
		return noOp && noV && noName && within(kids, 2, api.MaxList+1)
	case api.Call:
		return noOp && noV && takes(e.Name, kids)
	case api.Slot:
		return slots && noV && noName && kids == 0 && within(e.Op, 0, api.MaxCols-1)
	}
	return false
}

// isLit asks whether a value may stand as it is. An Int below 0 may not, since it is written with a sign ahead, which is a part of its own.
func isLit(v api.Value) bool {
	return value.Right(v) && (v.Kind != api.Int || v.N >= 0)
}

// takes asks whether there is a call of a name that takes so many.
func takes(name string, kids int) bool {
	switch name {
	case coalesceCall:
		return within(kids, 1, maxCoalesce)
	case lengthCall, absCall:
		return kids == 1
	}
	return false
}

// within asks whether a number is neither below the least nor above the most.
func within(n, least, most int) bool {
	return least <= n && n <= most
}
