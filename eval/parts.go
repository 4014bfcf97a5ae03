package eval

import (
	"iter"

	"registrar/api"
	"registrar/num"
	"registrar/truth"
	"registrar/value"
)

// The calls that there are; what is none of these two is abs.
const (
	coalesceCall = "coalesce"
	lengthCall   = "length"
)

// given are a row's values, and parameters.
type given struct{ row, params []api.Value }

// of is what a part comes to, of which it is known that it may be, or the first error in it.
func (g given) of(e api.Expr) (api.Value, api.Errno) {
	switch e.Kind {
	case api.Lit:
		return e.V, api.OK
	case api.Slot:
		return at(g.row, e.Op)
	case api.Par:
		return at(g.params, e.Op-1)
	case api.Un:
		return g.un(e.Op, e.Kids[0])
	case api.Bin:
		return g.bin(e.Op, e.Kids)
	case api.In:
		return g.in(e.Kids[0], e.Kids[1:])
	case api.Call:
		return g.call(e.Name, e.Kids)
	}
	return api.Value{}, api.ErrNone // A column's name is no place.
}

// values are what kids come to, or their errors, one behind the other. No kid is asked ahead of its turn, nor once no more are wanted.
func (g given) values(kids []api.Expr) iter.Seq2[api.Value, api.Errno] {
	return func(yield func(api.Value, api.Errno) bool) {
		for _, kid := range kids {
			if !yield(g.of(kid)) {
				return
			}
		}
	}
}

// un is what a sign makes of its kid.
func (g given) un(op int, kid api.Expr) (api.Value, api.Errno) {
	v, err := g.of(kid)
	if err != api.OK {
		return api.Value{}, err
	}
	switch op {
	case api.Neg:
		return changed(v, num.Back)
	case api.Not:
		t, err := truth.Of(v)
		return told(t.Not(), err)
	case api.IsNull:
		return told(truthOf(v.Kind == api.Null), api.OK)
	}
	return told(truthOf(v.Kind != api.Null), api.OK)
}

// bin is what a sign makes of its two kids.
func (g given) bin(op int, kids []api.Expr) (api.Value, api.Errno) {
	if op == api.And || op == api.Or {
		return g.join(op, kids, truth.Of)
	}
	a, err := g.of(kids[0])
	if err != api.OK {
		return api.Value{}, err
	}
	b, err := g.of(kids[1])
	if err != api.OK {
		return api.Value{}, err
	}
	if op <= api.Ge {
		return told(value.Compare(op, a, b))
	}
	return value.Math(op, a, b)
}

// in is whether one is among others: whether it is the first of them, or the second, and so on.
func (g given) in(one api.Expr, others []api.Expr) (api.Value, api.Errno) {
	v, err := g.of(one)
	if err != api.OK || v.Kind == api.Null {
		return api.Value{}, err
	}
	return g.join(api.Or, others, func(other api.Value) (truth.Truth, api.Errno) {
		return value.Compare(api.Eq, v, other)
	})
}

// join is what And, or Or, makes of kids, of each of which a rule tells a truth. The two are unlike in nothing but the truth that ends them, behind which nothing is asked, and how truths come together.
func (g given) join(op int, kids []api.Expr, rule func(v api.Value) (truth.Truth, api.Errno)) (api.Value, api.Errno) {
	ends, together := truth.False, truth.And
	if op == api.Or {
		ends, together = truth.True, truth.Or
	}
	all := together()
	for v, err := range g.values(kids) {
		if err != api.OK {
			return api.Value{}, err
		}
		t, err := rule(v)
		if err != api.OK {
			return api.Value{}, err
		}
		all = together(all, t)
		if all == ends {
			break
		}
	}
	return all.Value(), api.OK
}

// call is what a call makes of its kids.
func (g given) call(name string, kids []api.Expr) (api.Value, api.Errno) {
	if name == coalesceCall {
		return g.coalesce(kids)
	}
	v, err := g.of(kids[0])
	if err != api.OK {
		return api.Value{}, err
	}
	if name == lengthCall {
		return length(v)
	}
	return changed(v, num.Size)
}

// coalesce is the first of kids that is no Null; a Null, if all are.
func (g given) coalesce(kids []api.Expr) (api.Value, api.Errno) {
	for v, err := range g.values(kids) {
		if err != api.OK || v.Kind != api.Null {
			return v, err
		}
	}
	return api.Value{}, api.OK
}
