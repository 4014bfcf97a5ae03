package eval

import (
	"registrar/api"
	"registrar/num"
	"registrar/value"
)

// fill lays values in the place of parameters into an expression, whose memory is its own. It answers whether all that are used are right; if not, it goes no further.
func fill(e *api.Expr, params []api.Value) bool {
	if e.Kind == api.Par {
		v := params[e.Op-1]
		*e = written(v)
		return value.Right(v)
	}
	for i := range e.Kids {
		if !fill(&e.Kids[i], params) {
			return false
		}
	}
	return true
}

// written is an expression that comes to a value. No number below 0 is a Lit; the least one, whose other one can't be, is made of the one behind it.
func written(v api.Value) api.Expr {
	if v.Kind != api.Int || v.N >= 0 {
		return api.Expr{Kind: api.Lit, V: v}
	}
	size, err := num.Back(v.N)
	if err != api.OK {
		return api.Expr{Kind: api.Bin, Op: api.Sub, Kids: []api.Expr{written(whole(v.N + 1)), written(whole(1))}}
	}
	return api.Expr{Kind: api.Un, Op: api.Neg, Kids: []api.Expr{written(whole(size))}}
}
