package parse

import (
	"strings"

	"registrar/api"
	"registrar/exparse"
	"registrar/lex"
)

// parser reads tokens, of which the last one is the End, from the left on. It gives up by a panic with a fault.
type parser struct {
	tokens []lex.Token
	at     int
}

// fault is why a parser gives up, and at which place of the text.
type fault struct {
	place int
	err   api.Errno
}

// fault is one at the token that comes next.
func (p *parser) fault(err api.Errno) fault {
	return fault{place: p.tokens[p.at].At, err: err}
}

// ahead is the text of the token that stands so many behind the next one; behind the End stands the End. The text of a right token tells its kind too, so that is not asked for.
func (p *parser) ahead(n int) string {
	return p.tokens[min(p.at+n, len(p.tokens)-1)].Text
}

// end asks that nothing is left.
func (p *parser) end() {
	if p.tokens[p.at].Kind != lex.End {
		panic(p.fault(api.ErrSay))
	}
}

// skip passes a word or a sign by, if it comes next.
func (p *parser) skip(word string) bool {
	if p.ahead(0) != word {
		return false
	}
	p.at++
	return true
}

// must passes by words and signs that have to stand here. They are written with a blank between each two.
func (p *parser) must(words string) {
	for _, word := range strings.Fields(words) {
		if !p.skip(word) {
			panic(p.fault(api.ErrSay))
		}
	}
}

// name is a name that has to stand here.
func (p *parser) name() string {
	name := p.ahead(0)
	if !lex.IsName(name) {
		panic(p.fault(api.ErrSay))
	}
	p.at++
	return name
}

// nameBehind is the name that has to stand behind words.
func (p *parser) nameBehind(words string) string {
	p.must(words)
	return p.name()
}

// expr is an expression, as much as there is of it.
func (p *parser) expr() api.Expr {
	e, n, err := exparse.Take(p.tokens[p.at:])
	p.at += n
	if err != api.OK {
		panic(p.fault(err))
	}
	return e
}

// list reads one item or more, so many at most, with a comma between each two.
func list[T any](p *parser, most int, read func() T) []T {
	l := []T{read()}
	for len(l) < most && p.skip(",") {
		l = append(l, read())
	}
	return l
}
