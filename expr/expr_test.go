package expr_test

import (
	"strings"
	"testing"

	"registrar/api"
	"registrar/expr"
)

const (
	most  = 1<<63 - 1
	least = -1 << 63
)

func lit(n int) api.Expr { return api.Expr{Kind: api.Lit, V: number(n)} }

func col(name string) api.Expr { return api.Expr{Kind: api.Col, Name: name} }

func par(n int) api.Expr { return api.Expr{Kind: api.Par, Op: n} }

func slot(n int) api.Expr { return api.Expr{Kind: api.Slot, Op: n} }

func un(op int, kid api.Expr) api.Expr {
	return api.Expr{Kind: api.Un, Op: op, Kids: []api.Expr{kid}}
}

func bin(op int, a, b api.Expr) api.Expr {
	return api.Expr{Kind: api.Bin, Op: op, Kids: []api.Expr{a, b}}
}

func in(kids ...api.Expr) api.Expr { return api.Expr{Kind: api.In, Kids: kids} }

func call(name string, kids ...api.Expr) api.Expr {
	return api.Expr{Kind: api.Call, Name: name, Kids: kids}
}

func number(n int) api.Value { return api.Value{Kind: api.Int, N: n} }

func text(s string) api.Value { return api.Value{Kind: api.Text, S: s} }

// some is so many expressions.
func some(n int) []api.Expr {
	l := make([]api.Expr, n)
	for i := range l {
		l[i] = lit(i)
	}
	return l
}

// tower is a column under signs, so high that its height is n.
func tower(n int) api.Expr {
	e := col("a")
	for range n - 1 {
		e = un(api.Not, e)
	}
	return e
}

// P10.1: heights by hand.
func TestHeight(t *testing.T) {
	for _, x := range []struct {
		e    api.Expr
		want int
	}{
		{api.Expr{}, 1}, {lit(1), 1}, {col("a"), 1}, {par(1), 1}, {slot(0), 1},
		{api.Expr{Kids: []api.Expr{}}, 1}, {api.Expr{Kids: make([]api.Expr, 1)}, 2}, {api.Expr{Kids: make([]api.Expr, 100)}, 2},
		{un(api.Neg, lit(1)), 2}, {bin(api.Add, lit(1), lit(2)), 2}, {in(some(9)...), 2}, {call("abs", lit(1)), 2},
		{bin(api.Add, tower(3), lit(1)), 4}, {bin(api.Add, lit(1), tower(3)), 4}, {bin(api.Add, tower(5), tower(3)), 6},
		{in(lit(1), tower(2), tower(6), tower(4)), 7}, {call("coalesce", tower(4), tower(4)), 5}, {un(77, call("", in(), in(in()), in())), 4},
		{tower(8), 8}, {tower(9), 9}, {tower(1000), 1000}, {tower(1 << 16), 1 << 16},
	} {
		if n := expr.Height(x.e); n != x.want {
			t.Errorf("Height of %d kids is %d, want %d", len(x.e.Kids), n, x.want)
		}
	}
}

// mustCheck holds Check of an expression against an error, in and of itself and as a part of others.
func mustCheck(t *testing.T, e api.Expr, slots bool, want api.Errno) {
	t.Helper()
	for i, x := range []api.Expr{
		e, un(api.IsNull, e), bin(api.Or, e, lit(1)), bin(api.Cat, lit(1), e), in(e, lit(1)), in(lit(1), lit(2), e),
		call("coalesce", lit(1), e, lit(2)), un(api.Not, un(api.Not, bin(api.Eq, col("a"), call("abs", in(lit(1), in(e, lit(2))))))),
	} {
		if err := expr.Check(x, slots); err != want {
			t.Errorf("Check(%v, %t) as %d is %d, want %d", e, slots, i, err, want)
		}
	}
}

// rights are expressions that are right, one of each kind at least.
func rights() []api.Expr {
	l := []api.Expr{
		{Kind: api.Lit}, {Kind: api.Lit, V: api.Value{Kind: api.Bool}}, {Kind: api.Lit, V: api.Value{Kind: api.Bool, N: 1}},
		{Kind: api.Lit, V: text("")}, {Kind: api.Lit, V: text("it's ~")}, {Kind: api.Lit, V: text(strings.Repeat("a", 32))},
		lit(0), lit(1), lit(most), {Kind: api.Lit, Kids: []api.Expr{}},
		col("a"), col("z_9"), col("select"), col("abcdefghijkl"), par(1), par(2), par(6),
		call("coalesce", some(1)...), call("coalesce", some(2)...), call("coalesce", some(3)...), call("coalesce", some(4)...),
		call("length", lit(1)), call("abs", col("a")),
	}
	for op := 1; op <= 4; op++ {
		l = append(l, un(op, lit(1)))
	}
	for op := 1; op <= 14; op++ {
		l = append(l, bin(op, lit(1), col("b")))
	}
	for n := 2; n <= 9; n++ {
		l = append(l, in(some(n)...))
	}
	return l
}

// P10.1: Check of what is right, with slots and without.
func TestCheckOfRight(t *testing.T) {
	for _, e := range rights() {
		mustCheck(t, e, false, api.OK)
		mustCheck(t, e, true, api.OK)
	}
	for n := range 6 {
		mustCheck(t, slot(n), true, api.OK)
		mustCheck(t, slot(n), false, api.ErrArg)
	}
}

// mustRefuse holds Check of an expression against ErrArg, with slots and without.
func mustRefuse(t *testing.T, l ...api.Expr) {
	t.Helper()
	for _, e := range l {
		mustCheck(t, e, false, api.ErrArg)
		mustCheck(t, e, true, api.ErrArg)
	}
}

// P10.1: numbers of kinds, signs, parameters and places that there are none of.
func TestCheckOfNumbers(t *testing.T) {
	for _, kind := range []int{0, -1, 9, 10, 256 + api.Lit, 1<<32 + api.Lit, most, least} {
		mustRefuse(t, api.Expr{Kind: kind}, api.Expr{Kind: kind, Name: "a"}, api.Expr{Kind: kind, Op: 1}, api.Expr{Kind: kind, Op: 1, Kids: some(2)})
	}
	for _, op := range []int{0, -1, 5, 6, 15, 256 + 1, 1<<32 + 1, most, least} {
		mustRefuse(t, un(op, lit(1)))
	}
	for _, op := range []int{0, -1, 15, 16, 256 + 1, 1<<32 + 1, most, least} {
		mustRefuse(t, bin(op, lit(1), lit(2)))
	}
	for _, n := range []int{0, -1, 7, 256 + 1, 1<<32 + 1, most, least} {
		mustRefuse(t, par(n))
	}
	for _, n := range []int{-1, 6, 7, 256, 1 << 32, most, least} {
		mustRefuse(t, slot(n))
	}
}

// P10.1: more or fewer kids than there must be.
func TestCheckOfKids(t *testing.T) {
	of := func(kind, op int, name string, mayBe func(n int) bool) {
		for n := range 20 {
			if e := (api.Expr{Kind: kind, Op: op, Name: name, Kids: some(n)}); mayBe(n) {
				mustCheck(t, e, false, api.OK)
			} else {
				mustRefuse(t, e)
			}
		}
	}
	of(api.Lit, 0, "", func(n int) bool { return n == 0 })
	of(api.Col, 0, "a", func(n int) bool { return n == 0 })
	of(api.Par, 1, "", func(n int) bool { return n == 0 })
	for op := 1; op <= 4; op++ {
		of(api.Un, op, "", func(n int) bool { return n == 1 })
	}
	for op := 1; op <= 14; op++ {
		of(api.Bin, op, "", func(n int) bool { return n == 2 })
	}
	of(api.In, 0, "", func(n int) bool { return n >= 2 && n <= 9 })
	of(api.Call, 0, "coalesce", func(n int) bool { return n >= 1 && n <= 4 })
	of(api.Call, 0, "length", func(n int) bool { return n == 1 })
	of(api.Call, 0, "abs", func(n int) bool { return n == 1 })
	for n := 1; n < 4; n++ {
		mustRefuse(t, api.Expr{Kind: api.Slot, Kids: some(n)})
	}
}

// P10.1: values that are not right, and Ints below 0.
func TestCheckOfValues(t *testing.T) {
	for _, v := range []api.Value{
		{N: 1}, {N: -1}, {S: "a"}, {Kind: api.Bool, N: 2}, {Kind: api.Bool, N: -1}, {Kind: api.Bool, S: "a"}, {Kind: api.Int, S: "a"}, {Kind: api.Text, N: 1},
		{Kind: api.Text, S: "\n"}, {Kind: api.Text, S: "\x7f"}, {Kind: api.Text, S: "é"}, text(strings.Repeat("a", 33)), {Kind: -1}, {Kind: 4}, {Kind: 1 << 32},
		number(-1), number(-2), number(least), {Kind: api.Int, N: -1, S: "a"},
	} {
		mustRefuse(t, api.Expr{Kind: api.Lit, V: v})
	}
}

// P10.1: names that are none, of columns and of calls.
func TestCheckOfNames(t *testing.T) {
	for _, name := range []string{"", "A", "1", "_", "_a", "a ", " a", "a.b", "aB", "a$", "$1", "é", "a\x00", "abcdefghijklm", strings.Repeat("a", 1000)} {
		mustRefuse(t, col(name))
	}
	for _, name := range []string{"", "COALESCE", "Abs", "ABS", "LENGTH", "abs ", "ab", "absa", "lengt", "lengths", "coalesc", "coalesce2", "count", "min", "a", strings.Repeat("abs", 20)} {
		for n := 1; n <= 2; n++ {
			mustRefuse(t, call(name, some(n)...))
		}
	}
}

// P10.1: fields that a kind has not must be zero.
func TestCheckOfOtherFields(t *testing.T) {
	l := append(rights(), slot(0), slot(5))
	for _, e := range l {
		if e.Kind != api.Lit {
			for _, v := range []api.Value{{Kind: api.Int}, {N: 1}, {N: -1}, {S: "a"}, {Kind: api.Bool, N: 1}, {Kind: 9}} {
				x := e
				x.V = v
				mustRefuse(t, x)
			}
		}
		if e.Kind == api.Lit || e.Kind == api.Col || e.Kind == api.In || e.Kind == api.Call {
			for _, op := range []int{1, 2, -1, 14, most, least, 1 << 32} {
				x := e
				x.Op = op
				mustRefuse(t, x)
			}
		}
		if e.Kind != api.Col && e.Kind != api.Call {
			for _, name := range []string{"a", "abs", " ", "\x00"} {
				x := e
				x.Name = name
				mustRefuse(t, x)
			}
		}
	}
}

// P10.1: what is not right is found at each place of a tree, and so is what is too high.
func TestCheckOfParts(t *testing.T) {
	for n := 2; n <= 9; n++ {
		for i := range n {
			kids := some(n)
			kids[i] = par(7)
			mustRefuse(t, in(kids...))
			kids[i] = tower(7)
			if err := expr.Check(in(kids...), false); err != api.OK {
				t.Errorf("Check of height 8 by kid %d of %d is %d", i, n, err)
			}
			kids[i] = tower(8)
			if err := expr.Check(in(kids...), false); err != api.ErrDeep {
				t.Errorf("Check of height 9 by kid %d of %d is %d", i, n, err)
			}
		}
	}
}

// P10.1: an expression may have the height MaxDepth, and one more is told ahead of all that is not right.
func TestCheckOfDepth(t *testing.T) {
	wrong := api.Expr{Kind: 99}
	for n := 1; n < 30; n++ {
		for _, slots := range []bool{false, true} {
			want, wantWrong := api.OK, api.ErrArg
			if n > 8 {
				want, wantWrong = api.ErrDeep, api.ErrDeep
			}
			if err := expr.Check(tower(n), slots); err != want {
				t.Errorf("Check of height %d is %d", n, err)
			}
			bad := tower(n)
			bad.Name = "a b"
			for _, e := range []api.Expr{bad, in(wrong, wrong, tower(n-1)), in(tower(n-1), wrong), bin(99, wrong, tower(n-1))} {
				if err := expr.Check(e, slots); n > 2 && err != wantWrong {
					t.Errorf("Check of height %d that is not right is %d", n, err)
				}
			}
		}
	}
	for _, n := range []int{1000, 1 << 16} {
		if err := expr.Check(tower(n), true); err != api.ErrDeep {
			t.Errorf("Check of height %d is %d", n, err)
		}
	}
	e := slot(3)
	for range 8 {
		e = bin(99, e, e)
	}
	if err := expr.Check(e, false); err != api.ErrDeep {
		t.Errorf("Check of what is too high and not right is %d", err)
	}
}
