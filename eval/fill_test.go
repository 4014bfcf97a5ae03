package eval_test

import (
	"slices"
	"strconv"
	"strings"
	"testing"

	"registrar/api"
	"registrar/eval"
	"registrar/exparse"
	"registrar/expr"
)

// mustFill holds Fill against an expression, or against an error.
func mustFill(t *testing.T, e api.Expr, params []api.Value, want api.Expr, wantErr api.Errno) {
	t.Helper()
	if got, err := eval.Fill(e, params); !expr.Same(got, want) || err != wantErr {
		t.Errorf("Fill(%v, %v) is %v, %d, want %v, %d", e, params, got, err, want, wantErr)
	}
}

// neg is the expression of a number below 0.
func neg(n int) api.Expr { return un(api.Neg, lit(number(n))) }

// lowest is the expression of the least number.
func lowest() api.Expr { return bin(api.Sub, neg(most), lit(number(1))) }

// P16.3: Fill by hand.
func TestFill(t *testing.T) {
	params := []api.Value{number(5), number(-5), text("it's"), yes(), null(), number(least)}
	for _, x := range []struct{ e, want api.Expr }{
		{par(1), lit(number(5))}, {par(2), neg(5)}, {par(3), lit(text("it's"))}, {par(4), lit(yes())}, {par(5), lit(null())}, {par(6), lowest()},
		{col("a"), col("a")}, {slot(3), slot(3)}, {lit(number(7)), lit(number(7))}, {lit(null()), lit(null())},
		{un(api.Neg, par(1)), neg(5)}, {un(api.Neg, par(2)), un(api.Neg, neg(5))}, {un(api.IsNull, par(5)), un(api.IsNull, lit(null()))}, {un(api.Not, par(4)), un(api.Not, lit(yes()))},
		{bin(api.Add, par(1), par(1)), bin(api.Add, lit(number(5)), lit(number(5)))}, {bin(api.Mul, par(2), slot(1)), bin(api.Mul, neg(5), slot(1))}, {bin(api.Cat, col("b"), par(3)), bin(api.Cat, col("b"), lit(text("it's")))}, {bin(api.Sub, par(6), par(6)), bin(api.Sub, lowest(), lowest())},
		{in(par(1), par(2), slot(0), par(5)), in(lit(number(5)), neg(5), slot(0), lit(null()))}, {call("coalesce", par(5), col("c"), par(6), par(1)), call("coalesce", lit(null()), col("c"), lowest(), lit(number(5)))}, {call("abs", par(2)), call("abs", neg(5))}, {call("length", par(3)), call("length", lit(text("it's")))},
		{bin(api.And, bin(api.Eq, slot(0), par(2)), un(api.Not, in(par(4), lit(no())))), bin(api.And, bin(api.Eq, slot(0), neg(5)), un(api.Not, in(lit(yes()), lit(no()))))},
	} {
		mustFill(t, x.e, params, x.want, api.OK)
		if expr.Params(x.e) == 0 {
			mustFill(t, x.e, nil, x.want, api.OK)
		}
		if got, err := eval.Fill(x.want, nil); err != api.OK || !expr.Same(got, x.want) {
			t.Errorf("Fill of %v is %v, %d", x.want, got, err)
		}
	}
}

// P16.3: each number below 0 is the other one's Neg, and comes to itself.
func TestFillOfNumbers(t *testing.T) {
	for _, n := range []int{-1, -2, -9, -1 << 31, -1<<31 - 1, -1 << 32, -1 << 62, least + 2, least + 1} {
		mustFill(t, par(1), []api.Value{number(n)}, neg(-n), api.OK)
	}
	for _, n := range []int{0, 1, 1 << 31, 1 << 32, most - 1, most} {
		mustFill(t, par(1), []api.Value{number(n)}, lit(number(n)), api.OK)
	}
	for _, v := range rights() {
		e, err := eval.Fill(par(2), []api.Value{{Kind: 77}, v})
		if err != api.OK {
			t.Errorf("Fill of %v is %d", v, err)
		}
		mustEval(t, e, nil, nil, v, api.OK)
	}
}

// P16.3: ErrCount, if a number is above how many there are, used there or not.
func TestFillOfCounts(t *testing.T) {
	for n := range 8 {
		params := slices.Repeat([]api.Value{number(1)}, n)
		for i := 1; i <= 6; i++ {
			for _, make := range []func(kid api.Expr) api.Expr{
				func(kid api.Expr) api.Expr { return kid },
				func(kid api.Expr) api.Expr { return bin(api.And, lit(no()), kid) },
				func(kid api.Expr) api.Expr { return in(lit(null()), lit(yes()), kid, lit(no())) },
				func(kid api.Expr) api.Expr { return call("coalesce", lit(number(1)), kid, lit(number(1))) },
				func(kid api.Expr) api.Expr { return tower(8, kid) },
			} {
				if i <= n {
					mustFill(t, make(par(i)), params, make(lit(number(1))), api.OK)
				} else {
					mustFill(t, make(par(i)), params, api.Expr{}, api.ErrCount)
				}
			}
		}
	}
	params := []api.Value{number(1), number(2)}
	mustFill(t, bin(api.Add, par(1), par(3)), params, api.Expr{}, api.ErrCount)
	mustFill(t, bin(api.Add, par(3), par(1)), params, api.Expr{}, api.ErrCount)
	mustFill(t, par(3), append(params, number(3))[:2], api.Expr{}, api.ErrCount)
}

// P16.3: ErrArg, if a parameter that is used is not right; others may be anything.
func TestFillOfWrongValues(t *testing.T) {
	for _, v := range wrongs() {
		params := []api.Value{number(1), v, number(3)}
		for _, e := range []api.Expr{par(2), un(api.IsNull, par(2)), bin(api.Or, par(1), par(2)), bin(api.Or, par(2), par(1)), in(par(1), par(3), par(2)), in(par(1), par(2), par(3)), call("coalesce", par(1), par(2), par(3)), tower(8, par(2))} {
			mustFill(t, e, params, api.Expr{}, api.ErrArg)
		}
		mustFill(t, bin(api.Add, par(1), par(3)), params, bin(api.Add, lit(number(1)), lit(number(3))), api.OK)
		mustFill(t, par(1), []api.Value{number(1), v}, lit(number(1)), api.OK)
		mustFill(t, slot(1), []api.Value{v}, slot(1), api.OK)
	}
}

// P16.3: ErrDeep, if what is filled is too high, where e is not.
func TestFillOfHeights(t *testing.T) {
	params := []api.Value{number(1), number(-1), number(least)}
	for n := 1; n <= 8; n++ {
		mustFill(t, tower(n, par(1)), params, tower(n, lit(number(1))), api.OK)
		for i, want := range []api.Expr{lit(number(1)), neg(1), lowest()} {
			if n+i <= 8 {
				mustFill(t, tower(n, par(i+1)), params, tower(n, want), api.OK)
				mustFill(t, bin(api.Or, lit(no()), tower(n-1, par(i+1))), params, bin(api.Or, lit(no()), tower(n-1, want)), api.OK)
			} else {
				mustFill(t, tower(n, par(i+1)), params, api.Expr{}, api.ErrDeep)
				mustFill(t, bin(api.Or, lit(no()), tower(n-1, par(i+1))), params, api.Expr{}, api.ErrDeep)
				mustFill(t, in(tower(n-1, par(i+1)), lit(no()), par(1)), params, api.Expr{}, api.ErrDeep)
			}
		}
	}
}

// P16.3: of several errors the one that the chapter names first.
func TestFillOfFirstErrors(t *testing.T) {
	params := []api.Value{number(-1), {Kind: 9}}
	deep := tower(7, par(1))
	for _, x := range []struct {
		e    api.Expr
		want api.Errno
	}{
		{bin(api.Or, deep, lit(null())), api.ErrDeep}, {bin(api.Or, deep, par(2)), api.ErrArg}, {bin(api.Or, par(2), deep), api.ErrArg}, {bin(api.Or, deep, par(3)), api.ErrCount}, {bin(api.Or, par(3), deep), api.ErrCount},
		{in(deep, par(2), par(3)), api.ErrCount}, {in(par(3), par(2), deep), api.ErrCount}, {in(par(2), par(3)), api.ErrCount}, {in(par(3), par(2)), api.ErrCount}, {in(deep, par(2), par(3), par(7)), api.ErrArg}, {in(deep, un(api.IsNull, deep), par(3)), api.ErrDeep}, {in(par(3), api.Expr{}), api.ErrArg},
	} {
		mustFill(t, x.e, params, api.Expr{}, x.want)
	}
}

// shown is a value, and the text that stands for it.
type shown struct {
	s string
	v api.Value
}

// P16.3: Fill is what becomes of a text, if each parameter in it gives way to what stands for its value.
func TestFillOfTexts(t *testing.T) {
	values := []shown{{"5", number(5)}, {"(-5)", number(-5)}, {"(-9223372036854775807 - 1)", number(least)}, {"(-9223372036854775807)", number(-most)}, {"NULL", null()}, {"TRUE", yes()}, {"'a''b'", text("a'b")}}
	had := map[api.Errno]int{}
	for _, m := range makers(20000) {
		m.row, m.wild = nil, most
		e := m.tree(1+m.below(8), m.below(4))
		s, err := expr.Print(e)
		if err != api.OK {
			continue
		}
		var params []api.Value
		for i := range api.MaxParams {
			x := pick(m.dice, values...)
			params = append(params, x.v)
			s = strings.ReplaceAll(s, "$"+strconv.Itoa(i+1), x.s)
		}
		want, _, wantErr := exparse.Parse(s)
		if wantErr == api.ErrFull || wantErr == api.ErrLong { // A text has fewer parts than a tree may have.
			continue
		}
		had[wantErr]++
		mustFill(t, e, params, want, wantErr)
	}
	if had[api.OK] < 3000 || had[api.ErrDeep] < 50 || len(had) != 2 {
		t.Errorf("the texts are %v", had)
	}
}
