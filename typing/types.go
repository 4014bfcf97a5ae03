package typing

import (
	"slices"

	"registrar/api"
)

// The calls that there are.
const (
	coalesceCall = "coalesce"
	lengthCall   = "length"
	absCall      = "abs"
)

// given are the types of a row's columns, and of parameters.
type given struct{ cols, params []int }

// of is the type of a part, of which it is known that it may be, or the error of the first part in it that has one. Signs of numbers, and of truths, make the type that they take: they fall through to where kids must agree, with what is made as one of them.
func (g given) of(e api.Expr) (int, api.Errno) {
	if len(e.Kids) == 0 {
		return g.leaf(e)
	}
	kids, err := g.all(e.Kids)
	if err != api.OK {
		return api.Null, err
	}
	makes := api.Bool
	switch {
	case signs(e, api.Un, api.Neg, api.Neg), signs(e, api.Bin, api.Add, api.Mod), calls(e, absCall):
		makes = api.Int
		fallthrough
	case signs(e, api.Un, api.Not, api.Not), signs(e, api.Bin, api.Or, api.And):
		kids = append(kids, makes)
		fallthrough
	case signs(e, api.Bin, api.Eq, api.Ge):
		return made(makes, agree(kids...))
	case signs(e, api.Bin, api.Cat, api.Cat):
		return made(api.Text, agree(append(kids, api.Text)...))
	case calls(e, lengthCall):
		return made(api.Int, agree(append(kids, api.Text)...))
	case calls(e, coalesceCall):
		return made(known(kids), agree(kids...))
	case e.Kind == api.In:
		strange := func(kid int) bool { return !agree(kids[0], kid) }
		return made(api.Bool, !slices.ContainsFunc(kids[1:], strange))
	}
	return api.Bool, api.OK // IS NULL and IS NOT NULL take anything.
}

// all are the types of kids, or the first one's error.
func (g given) all(kids []api.Expr) ([]int, api.Errno) {
	types := make([]int, 0, len(kids)+1) // One more is what a sign may add.
	for _, kid := range kids {
		t, err := g.of(kid)
		if err != api.OK {
			return nil, err
		}
		types = append(types, t)
	}
	return types, api.OK
}

// leaf is the type of what has no kids.
func (g given) leaf(e api.Expr) (int, api.Errno) {
	switch e.Kind {
	case api.Lit:
		return e.V.Kind, api.OK
	case api.Slot:
		return at(g.cols, e.Op)
	case api.Par:
		return at(g.params, e.Op-1)
	}
	return api.Null, api.ErrNone // A column's name is no place.
}

// at is the type at a place.
func at(types []int, place int) (int, api.Errno) {
	if place >= len(types) {
		return api.Null, api.ErrCount
	}
	t := types[place]
	return made(t, api.Null <= t && t <= api.Text)
}

// made is a type, where what is asked for it is so.
func made(t int, so bool) (int, api.Errno) {
	if !so {
		return api.Null, api.ErrType
	}
	return t, api.OK
}

// signs asks whether a part is of a kind, with a sign from one to another.
func signs(e api.Expr, kind, from, to int) bool {
	return e.Kind == kind && from <= e.Op && e.Op <= to
}

// calls asks whether a part is a call of a name.
func calls(e api.Expr, name string) bool {
	return e.Kind == api.Call && e.Name == name
}

// known is the first type that is not Null; Null, if all are.
func known(types []int) int {
	for _, t := range types {
		if t != api.Null {
			return t
		}
	}
	return api.Null
}

// agree asks whether each two of types agree: whether those that are not Null are one.
func agree(types ...int) bool {
	one := known(types)
	return !slices.ContainsFunc(types, func(t int) bool { return t != api.Null && t != one })
}
