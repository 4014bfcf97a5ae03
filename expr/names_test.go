package expr_test

import (
	"slices"
	"strconv"
	"testing"

	"registrar/api"
	"registrar/expr"
)

// P10.4: names by hand, in the order of the text.
func TestNames(t *testing.T) {
	for _, x := range []struct {
		e    api.Expr
		want []string
	}{
		{api.Expr{}, nil}, {lit(1), nil}, {par(1), nil}, {slot(1), nil}, {call("abs", lit(1)), nil}, {in(some(9)...), nil},
		{col("a"), []string{"a"}}, {un(api.IsNull, col("b")), []string{"b"}},
		{bin(api.Add, col("b"), col("a")), []string{"b", "a"}}, {bin(api.Add, col("a"), col("a")), []string{"a"}},
		{bin(api.And, bin(api.Or, col("c"), col("b")), col("a")), []string{"c", "b", "a"}},
		{bin(api.And, col("a"), bin(api.Or, col("c"), col("b"))), []string{"a", "c", "b"}},
		{in(col("z"), col("y"), bin(api.Sub, col("z"), col("x")), col("a"), col("y")), []string{"z", "y", "x", "a"}},
		{call("coalesce", call("abs", col("length")), col("abs"), call("length", col("b"))), []string{"length", "abs", "b"}},
		{tower(8), []string{"a"}}, {tower(1 << 16), []string{"a"}},
		{bin(api.Eq, api.Expr{Kind: api.Lit, V: text("a")}, col("b")), []string{"b"}},
	} {
		if l := expr.Names(x.e); !slices.Equal(l, x.want) {
			t.Errorf("Names are %q, want %q", l, x.want)
		}
	}
}

// P10.4: of trees that are not right a part stands ahead of its kids, and these from the first on; only columns have names there too.
func TestNamesOfWrong(t *testing.T) {
	with := func(name string, kids ...api.Expr) api.Expr {
		return api.Expr{Kind: api.Col, Name: name, Kids: kids}
	}
	for _, x := range []struct {
		e    api.Expr
		want []string
	}{
		{with("c", col("b"), col("a")), []string{"c", "b", "a"}},
		{with("c", with("b", with("a")), with("d", with("c"), with("e"))), []string{"c", "b", "a", "d", "e"}},
		{in(with("x", col("w"), with("w", col("x"), col("v"))), col("u"), col("x")), []string{"x", "w", "v", "u"}},
		{col(""), []string{""}}, {bin(99, col("A"), col("")), []string{"A", ""}}, {col("a b\xff"), []string{"a b\xff"}},
		{api.Expr{Kind: api.Col, Op: 7, V: text("v"), Name: "n"}, []string{"n"}},
		{api.Expr{Name: "a"}, nil}, {api.Expr{Kind: api.Lit, Name: "a"}, nil}, {api.Expr{Kind: 1<<32 + api.Col, Name: "a"}, nil},
		{api.Expr{Kind: api.Par, Op: 1, Name: "a", Kids: []api.Expr{col("b")}}, []string{"b"}},
		{api.Expr{Kind: 99, Name: "a", Kids: []api.Expr{{Kind: api.Slot, Name: "a"}, col("b"), {Name: "b", Kids: []api.Expr{col("a")}}}}, []string{"b", "a"}},
	} {
		if l := expr.Names(x.e); !slices.Equal(l, x.want) {
			t.Errorf("Names of %v are %q, want %q", x.e, l, x.want)
		}
	}
}

// P10.4: many names, each once, and nobody else's.
func TestNamesOfMany(t *testing.T) {
	var want []string
	e := api.Expr{Kind: api.In}
	for i := range 100000 {
		name := "n" + strconv.Itoa(i)
		want = append(want, name)
		e.Kids = append(e.Kids, col(name), un(api.Not, col(want[i/2])))
	}
	l := expr.Names(e)
	if !slices.Equal(l, want) {
		t.Fatalf("there are %d names, want %d", len(l), len(want))
	}
	clear(l[:cap(l)])
	if !slices.Equal(expr.Names(e), want) {
		t.Error("names are shared")
	}
}

// P10.4: parameters by hand; all numbers are taken of any tree, but none that is not above 0.
func TestParams(t *testing.T) {
	for _, x := range []struct {
		e    api.Expr
		want int
	}{
		{api.Expr{}, 0}, {lit(5), 0}, {col("a"), 0}, {slot(5), 0}, {par(1), 1}, {par(6), 6},
		{bin(api.Cat, lit(9), lit(8)), 0}, {un(api.NotNull, col("a")), 0}, {un(api.NotNull, par(3)), 3},
		{bin(api.Add, par(2), par(5)), 5}, {bin(api.Add, par(5), par(2)), 5}, {bin(api.Cat, par(1), slot(4)), 1},
		{in(par(1), par(3), par(2), par(3)), 3}, {call("coalesce", lit(7), un(api.Neg, par(4)), par(2)), 4},
		{par(0), 0}, {par(-1), 0}, {par(least), 0}, {par(7), 7}, {par(most), most}, {par(1 << 32), 1 << 32}, {bin(99, par(-5), par(-9)), 0},
		{in(par(-5), par(2), par(0)), 2}, {api.Expr{Op: 3}, 0}, {api.Expr{Kind: 99, Op: 9, Kids: []api.Expr{par(2)}}, 2},
		{api.Expr{Kind: api.Par, Op: 1, Kids: []api.Expr{par(2), {Kind: api.Par, Op: -3, Kids: []api.Expr{par(8)}}, par(3)}}, 8},
		{api.Expr{Kind: 1<<32 + api.Par, Op: 5}, 0}, {tower(1 << 16), 0},
	} {
		if n := expr.Params(x.e); n != x.want {
			t.Errorf("Params of %v is %d, want %d", x.e.Kind, n, x.want)
		}
	}
}
