package eval_test

import (
	"strings"

	"registrar/api"
)

// dice are numbers that are always the same ones.
type dice struct{ seed uint32 }

// below is the next number, from 0 to n - 1.
func (d *dice) below(n int) int {
	d.seed = d.seed*1664525 + 1013904223
	return int(d.seed>>8) % n
}

// pick is one of a list.
func pick[T any](d *dice, l ...T) T { return l[d.below(len(l))] }

// maker makes trees over a row and parameters, whose parts are of the types that are asked for, where it does not go astray.
type maker struct {
	*dice
	row, params []api.Value
	wild        int
}

// value is a right one of a type.
func (d *dice) value(typ int) api.Value {
	switch typ {
	case api.Int:
		return number(pick(d, 0, 1, 2, 3, 4, 5, 6, 7, 8, 9, 10, 100, -1, -2, -3, -7, 1<<31, 3037000500, most, -most, least))
	case api.Bool:
		return pick(d, yes(), no())
	case api.Text:
		return text(strings.Repeat(pick(d, "a", "b", "it's ", "~"), pick(d, 0, 1, 1, 2, 2, 3, 6)))
	}
	return null()
}

// literal is a Lit of a type.
func (m maker) literal(typ int) api.Expr {
	v := m.value(typ)
	if v.Kind == api.Int && v.N < 0 {
		v.N = -(v.N + 1)
	}
	return lit(v)
}

// others are values of the same kinds, or Nulls.
func (m maker) others(kinds []int) []api.Value {
	var l []api.Value
	for _, kind := range kinds {
		l = append(l, m.value(pick(m.dice, kind, kind, api.Null)))
	}
	return l
}

// leaf is a part without kids of a type, where there is such a value, or rarely of any.
func (m maker) leaf(typ int) api.Expr {
	if m.below(m.wild) == 0 {
		return pick(m.dice, slot(m.below(6)), par(1+m.below(6)), col(pick(m.dice, "a", "b", "z")), m.literal(m.below(4)), m.literal(api.Null))
	}
	l := []api.Expr{m.literal(typ), m.literal(typ), m.literal(pick(m.dice, typ, api.Null))}
	for i, v := range m.row {
		if v.Kind == typ && i < 6 {
			l = append(l, slot(i))
		}
	}
	for i, v := range m.params {
		if v.Kind == typ && i < 6 {
			l = append(l, par(i+1), par(i+1))
		}
	}
	return pick(m.dice, l...)
}

// tree is an expression of a type, as high as asked at most, with a part of another type here and there.
func (m maker) tree(height, typ int) api.Expr {
	if height == 1 || m.below(6) == 0 {
		return m.leaf(typ)
	}
	if m.below(m.wild) == 0 {
		typ = m.below(4)
	}
	kids := func(n, typ int) []api.Expr {
		l := make([]api.Expr, n)
		for i := range l {
			l[i] = m.tree(height-1, typ)
		}
		return l
	}
	some := m.below(4)
	switch way := m.below(6); {
	case way == 0:
		return call("coalesce", kids(1+m.below(4), typ)...)
	case typ == api.Int && way == 1:
		return un(api.Neg, kids(1, typ)[0])
	case typ == api.Int && way == 2:
		return call(pick(m.dice, "abs", "length"), kids(1, pick(m.dice, typ, api.Text))...)
	case typ == api.Int:
		return api.Expr{Kind: api.Bin, Op: api.Add + m.below(5), Kids: kids(2, typ)}
	case typ == api.Text:
		return api.Expr{Kind: api.Bin, Op: api.Cat, Kids: kids(2, typ)}
	case typ == api.Bool && way == 1:
		return un(api.Not, kids(1, typ)[0])
	case typ == api.Bool && way == 2:
		return un(pick(m.dice, api.IsNull, api.NotNull), kids(1, some)[0])
	case typ == api.Bool && way == 3:
		return in(kids(2+m.below(4), some)...)
	case typ == api.Bool && way == 4:
		return api.Expr{Kind: api.Bin, Op: api.Eq + m.below(6), Kids: kids(2, some)}
	case typ == api.Bool:
		return api.Expr{Kind: api.Bin, Op: api.Or + m.below(2), Kids: kids(2, typ)}
	}
	return call("coalesce", kids(1+m.below(4), typ)...)
}

// makers are many, each with other values and another wildness; a few have values that are not right.
func makers(n int) []maker {
	d := &dice{16}
	var l []maker
	for range n {
		m := maker{dice: d, wild: pick(d, 3, 20, 100, 1000)}
		for range d.below(8) {
			m.row = append(m.row, d.value(d.below(4)))
		}
		for range d.below(8) {
			m.params = append(m.params, d.value(d.below(4)))
		}
		if d.below(5) == 0 && len(m.row) > 0 {
			m.row[d.below(len(m.row))] = pick(d, wrongs()...)
		}
		if d.below(5) == 0 && len(m.params) > 0 {
			m.params[d.below(len(m.params))] = pick(d, wrongs()...)
		}
		l = append(l, m)
	}
	return l
}
