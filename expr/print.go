package expr

import (
	"strconv"
	"strings"

	"registrar/api"
	"registrar/value"
)

// The ranks: what has a greater one holds its kids closer.
const (
	orRank = 1 + iota
	andRank
	notRank
	askRank
	sumRank
	timesRank
	negRank
	oneRank
)

// anyRank is what is asked for where nothing is ever put into brackets.
const anyRank = orRank

// signs are those between two, the sign of api.Or first.
var signs = [...]string{"OR", "AND", "=", "<>", "<", "<=", ">", ">=", "+", "-", "*", "/", "%", "||"}

// Print is its text.
func Print(e api.Expr) (string, api.Errno) {
	if err := Check(e, true); err != api.OK {
		return "", err
	}
	var b strings.Builder
	printer{write: b.WriteString, size: b.Len}.kid(e, anyRank)
	if b.Len() > api.MaxSql {
		return "", api.ErrLong
	}
	return b.String(), api.OK
}

// printer writes right expressions to what knows how much was written.
type printer struct {
	write func(s string) (int, error)
	size  func() int
}

// kid writes an expression where a rank is asked for. Where the text is too long, it goes no further, since there may be far more to write than is ever told.
func (p printer) kid(e api.Expr, asked int) {
	switch {
	case p.size() > api.MaxSql:
	case rank(e) < asked:
		p.write("(")
		p.bare(e)
		p.write(")")
	default:
		p.bare(e)
	}
}

// bare writes an expression without brackets around it.
func (p printer) bare(e api.Expr) {
	switch e.Kind {
	case api.Lit:
		p.write(value.Show(e.V))
	case api.Col:
		p.write(e.Name)
	case api.Par:
		p.write("$" + strconv.Itoa(e.Op))
	case api.Slot:
		p.write("#" + strconv.Itoa(e.Op))
	case api.Un:
		p.un(e.Op, e.Kids[0])
	case api.Bin:
		p.bin(e.Op, e.Kids[0], e.Kids[1])
	case api.In:
		p.kid(e.Kids[0], sumRank)
		p.write(" IN ")
		p.list(e.Kids[1:])
	case api.Call:
		p.write(strings.ToUpper(e.Name))
		p.list(e.Kids)
	}
}

// un writes a sign ahead of its kid, or behind it.
func (p printer) un(op int, kid api.Expr) {
	switch op {
	case api.Neg:
		p.write("-")
		p.kid(kid, negRank)
	case api.Not:
		p.write("NOT ")
		p.kid(kid, notRank)
	case api.IsNull:
		p.kid(kid, sumRank)
		p.write(" IS NULL")
	case api.NotNull:
		p.kid(kid, sumRank)
		p.write(" IS NOT NULL")
	}
}

// bin writes a sign between its kids.
func (p printer) bin(op int, left, right api.Expr) {
	askedLeft, askedRight := askedOf(op)
	p.kid(left, askedLeft)
	p.write(" " + signs[op-api.Or] + " ")
	p.kid(right, askedRight)
}

// list writes kids in brackets.
func (p printer) list(kids []api.Expr) {
	p.write("(")
	for i, kid := range kids {
		if i > 0 {
			p.write(",")
		}
		p.kid(kid, anyRank)
	}
	p.write(")")
}

// askedOf is which rank a sign between two asks for, left and right of it. Comparisons don't go on, so both sides are asked for more; all others go on from the left.
func askedOf(op int) (left, right int) {
	own := binRank(op)
	if own == askRank {
		return sumRank, sumRank
	}
	return own, own + 1
}

// rank is an expression's.
func rank(e api.Expr) int {
	switch e.Kind {
	case api.Un:
		return unRank(e.Op)
	case api.Bin:
		return binRank(e.Op)
	case api.In:
		return askRank
	}
	return oneRank
}

// unRank is that of a sign ahead of one, or behind it.
func unRank(op int) int {
	switch op {
	case api.Neg:
		return negRank
	case api.Not:
		return notRank
	}
	return askRank
}

// binRank is that of a sign between two.
func binRank(op int) int {
	switch op {
	case api.Or:
		return orRank
	case api.And:
		return andRank
	case api.Add, api.Sub, api.Cat:
		return sumRank
	case api.Mul, api.Div, api.Mod:
		return timesRank
	}
	return askRank
}
