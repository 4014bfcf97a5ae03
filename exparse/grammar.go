package exparse

import (
	"strings"

	"registrar/api"
	"registrar/lex"
)

// The ranks of signs between two, in the grammar's order.
const (
	orRank = 1 + iota
	andRank
	isRank
	sumRank
	partRank
)

// The words that stand for more than a sign between two.
const (
	notKey      = "NOT"
	isKey       = "IS"
	inKey       = "IN"
	nullKey     = "NULL"
	trueKey     = "TRUE"
	falseKey    = "FALSE"
	coalesceKey = "COALESCE"
	lengthKey   = "LENGTH"
	absKey      = "ABS"
)

// The signs that stand for more than a sign between two.
const (
	negSign   = "-"
	openSign  = "("
	closeSign = ")"
	comma     = ","
)

// maxCoalesce is how many a COALESCE takes.
const maxCoalesce = 4

// sign is a token that stands between two.
type sign struct {
	text     string
	rank, op int
}

// signs are all of them. It is no array, since going through one lays a copy of it on the stack, at each level.
var signs = []sign{
	{"OR", orRank, api.Or}, {"AND", andRank, api.And},
	{"=", isRank, api.Eq}, {"<>", isRank, api.Ne}, {"<", isRank, api.Lt}, {"<=", isRank, api.Le}, {">", isRank, api.Gt}, {">=", isRank, api.Ge},
	{"+", sumRank, api.Add}, {"-", sumRank, api.Sub}, {"||", sumRank, api.Cat},
	{"*", partRank, api.Mul}, {"/", partRank, api.Div}, {"%", partRank, api.Mod},
}

// sign passes the next token by, if it is a sign of a rank, and answers which.
func (p *parser) sign(rank int) (op int, found bool) {
	for _, s := range signs {
		if s.rank == rank && p.skip(s.text) {
			return s.op, true
		}
	}
	return 0, false
}

// row puts on the pile what one operand or more come to with signs of a rank between them, from the left on.
func (p *parser) row(rank int, operand func()) {
	operand()
	for {
		op, found := p.sign(rank)
		if !found {
			return
		}
		operand()
		p.over(2, api.Expr{Kind: api.Bin, Op: op})
	}
}

// any puts an expression of the grammar's line of that name on the pile, as the functions below do.
func (p *parser) any() {
	p.row(orRank, p.and)
}

func (p *parser) and() {
	p.row(andRank, p.not)
}

func (p *parser) not() {
	if !p.skip(notKey) {
		p.is()
		return
	}
	p.not()
	p.over(1, api.Expr{Kind: api.Un, Op: api.Not})
}

func (p *parser) is() {
	p.sum()
	op, found := p.sign(isRank)
	switch {
	case found:
		p.sum()
		p.over(2, api.Expr{Kind: api.Bin, Op: op})
	case p.skip(isKey):
		p.over(1, api.Expr{Kind: api.Un, Op: p.nullOrNot()})
	case p.skip(inKey):
		p.over(1+p.list(api.MaxList), api.Expr{Kind: api.In})
	}
}

func (p *parser) sum() {
	p.row(sumRank, p.part)
}

func (p *parser) part() {
	p.row(partRank, p.neg)
}

func (p *parser) neg() {
	if !p.skip(negSign) {
		p.one()
		return
	}
	p.neg()
	p.over(1, api.Expr{Kind: api.Un, Op: api.Neg})
}

func (p *parser) one() {
	token := p.next()
	switch token.Kind {
	case lex.Name:
		p.leaf(api.Expr{Kind: api.Col, Name: token.Text})
	case lex.Param:
		p.leaf(api.Expr{Kind: api.Par, Op: int(token.Text[1] - '0')})
	case lex.Number, lex.Quoted:
		p.lit()
	default:
		p.word(token.Text)
	}
}

// word is the rest of one, which a key or a sign begins.
func (p *parser) word(text string) {
	switch text {
	case trueKey, falseKey, nullKey:
		p.lit()
	case openSign:
		p.list(1)
	case coalesceKey:
		p.call(text, maxCoalesce)
	case lengthKey, absKey:
		p.call(text, 1)
	default:
		panic(p.fault(api.ErrSay))
	}
}

// nullOrNot is which sign stands behind IS.
func (p *parser) nullOrNot() int {
	op := api.IsNull
	if p.skip(notKey) {
		op = api.NotNull
	}
	p.must(nullKey)
	return op
}

// lit puts the value that the next token says on the pile.
func (p *parser) lit() {
	v, err := lex.Value(p.next())
	if err != api.OK {
		panic(p.fault(err))
	}
	p.leaf(api.Expr{Kind: api.Lit, V: v})
}

// call puts a call by the next word on the pile, of so many at most.
func (p *parser) call(word string, most int) {
	p.must(word)
	p.over(p.list(most), api.Expr{Kind: api.Call, Name: strings.ToLower(word)})
}

// list puts one or more in brackets on the pile, so many at most, and answers how many they are.
func (p *parser) list(most int) int {
	p.must(openSign)
	p.any()
	n := 1
	for ; n < most && p.skip(comma); n++ {
		p.any()
	}
	p.must(closeSign)
	return n
}
