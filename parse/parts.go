package parse

import (
	"registrar/api"
	"registrar/lex"
	"registrar/stmt"
)

// noLimit is the Limit of a Select that has none, and maxLimit is the greatest one.
const (
	noLimit  = -1
	maxLimit = 9999
)

// column reads the part of a statement that it is named by, as do the functions below.
func (p *parser) column() api.Column {
	col := api.Column{Name: p.name(), Type: p.typ()}
	if p.skip("NOT") {
		p.must("NULL")
		col.NotNull = true
	}
	return col
}

func (p *parser) typ() int {
	for typ := api.Int; typ <= api.Text; typ++ {
		if p.skip(stmt.Type(typ)) {
			return typ
		}
	}
	panic(p.fault(api.ErrSay))
}

func (p *parser) priv() int {
	for priv := api.PrivSelect; priv <= api.PrivDelete; priv++ {
		if p.skip(stmt.Priv(priv)) {
			return priv
		}
	}
	panic(p.fault(api.ErrSay))
}

func (p *parser) constraint() api.Cons {
	cons := api.Cons{Name: p.nameBehind("CONSTRAINT")}
	switch {
	case p.skip("UNIQUE"):
		cons.Kind = api.Unique
		cons.Cols = p.names(api.MaxKey)
	case p.skip("CHECK"):
		cons.Kind = api.Check
		p.must("(")
		cons.Check = p.expr()
		p.must(")")
	default:
		p.must("FOREIGN KEY")
		cons.Kind = api.Foreign
		cons.Cols = p.names(api.MaxKey)
		cons.Table = p.nameBehind("REFERENCES")
		cons.Refs = p.refs(len(cons.Cols))
	}
	return cons
}

// names are one name or more in brackets, so many at most.
func (p *parser) names(most int) []string {
	p.must("(")
	l := list(p, most, p.name)
	p.must(")")
	return l
}

// refs are just so many names in brackets.
func (p *parser) refs(n int) []string {
	p.must("(")
	l := []string{p.name()}
	for len(l) < n {
		p.must(",")
		l = append(l, p.name())
	}
	p.must(")")
	return l
}

// row is one expression or more in brackets, so many at most.
func (p *parser) row(most int) []api.Expr {
	p.must("(")
	l := list(p, most, p.expr)
	p.must(")")
	return l
}

func (p *parser) set() api.Set {
	name := p.name()
	p.must("=")
	return api.Set{Name: name, E: p.expr()}
}

// where is an expression that may be missing.
func (p *parser) where() api.Expr {
	if !p.skip("WHERE") {
		return api.Expr{}
	}
	return p.expr()
}

func (p *parser) order() api.Order {
	return api.Order{E: p.expr(), Desc: p.skip("DESC")}
}

// limit is a number that may be missing.
func (p *parser) limit() int {
	if !p.skip("LIMIT") {
		return noLimit
	}
	token := p.tokens[p.at]
	if token.Kind != lex.Number {
		panic(p.fault(api.ErrSay))
	}
	v, err := lex.Value(token)
	if err != api.OK || v.N > maxLimit {
		panic(p.fault(api.ErrRange))
	}
	p.at++
	return v.N
}
