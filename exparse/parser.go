package exparse

import (
	"slices"

	"registrar/api"
	"registrar/expr"
	"registrar/lex"
)

// parser reads tokens, of which the last one is the End, from the left on. What it has read stands on a pile, lest a level of brackets take much of the stack. It gives up by a panic with a fault.
type parser struct {
	tokens []lex.Token
	at     int
	pile   []api.Expr
	deep   bool
}

// fault is why a parser gives up, and at which token.
type fault struct {
	at  int
	err api.Errno
}

// fault is one at the token that comes next.
func (p *parser) fault(err api.Errno) fault {
	return fault{at: p.at, err: err}
}

// next is the token that comes next. There is one at all times, since nothing passes the End by.
func (p *parser) next() lex.Token {
	return p.tokens[p.at]
}

// skip passes the next token by, if its text is this one. The text of a right token tells its kind too, so that is not asked for.
func (p *parser) skip(text string) bool {
	if p.next().Text != text {
		return false
	}
	p.at++
	return true
}

// must passes by a token that has to stand here.
func (p *parser) must(text string) {
	if !p.skip(text) {
		panic(p.fault(api.ErrSay))
	}
}

// leaf passes the next token by, which is all of an expression.
func (p *parser) leaf(e api.Expr) {
	p.at++
	p.pile = append(p.pile, e)
}

// over puts an expression on the pile in the place of its kids, which are the last ones there. Where it is too high it is let go: nothing but a fault further on is told any more, and no tree grows too high to be gone through.
func (p *parser) over(kids int, e api.Expr) {
	from := len(p.pile) - kids
	e.Kids = slices.Clone(p.pile[from:])
	if expr.Height(e) > api.MaxDepth {
		p.deep = true
		e = api.Expr{}
	}
	p.pile = append(p.pile[:from], e)
}
