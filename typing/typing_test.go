package typing_test

import (
	"slices"
	"testing"

	"registrar/api"
	"registrar/expr"
	"registrar/typing"
)

const (
	most  = 1<<63 - 1
	least = -1 << 63
)

func lit(n int) api.Expr { return api.Expr{Kind: api.Lit, V: number(n)} }

func col(name string) api.Expr { return api.Expr{Kind: api.Col, Name: name} }

func par(n int) api.Expr { return api.Expr{Kind: api.Par, Op: n} }

func slot(n int) api.Expr { return api.Expr{Kind: api.Slot, Op: n} }

func un(op int, kid api.Expr) api.Expr {
	return api.Expr{Kind: api.Un, Op: op, Kids: []api.Expr{kid}}
}

func bin(op int, a, b api.Expr) api.Expr {
	return api.Expr{Kind: api.Bin, Op: op, Kids: []api.Expr{a, b}}
}

func in(kids ...api.Expr) api.Expr { return api.Expr{Kind: api.In, Kids: kids} }

func call(name string, kids ...api.Expr) api.Expr {
	return api.Expr{Kind: api.Call, Name: name, Kids: kids}
}

// of is a Lit of a type.
func of(t int) api.Expr {
	return api.Expr{Kind: api.Lit, V: []api.Value{{}, number(7), {Kind: api.Bool, N: 1}, text("x")}[t]}
}

func number(n int) api.Value { return api.Value{Kind: api.Int, N: n} }

func text(s string) api.Value { return api.Value{Kind: api.Text, S: s} }

// tower is a part under signs, so high that its height is n.
func tower(n int, e api.Expr) api.Expr {
	for range n - 1 {
		e = un(api.IsNull, e)
	}
	return e
}

// columns is a table of columns of these names, each of another type than the one ahead.
func columns(l ...string) api.Table {
	t := api.Table{Name: "t", Owner: "root"}
	for i, name := range l {
		t.Cols = append(t.Cols, api.Column{Name: name, Type: api.Int + i%3})
	}
	return t
}

// others are numbers that no type has, though their last bytes may be those of one.
func others() []int {
	return []int{-1, -2, -3, 4, 5, 99, 256, 257, 259, 1 << 16, 1 << 32, 1<<32 + 1, -1 << 32, 3 - 1<<32, most, least, least + 1}
}

// mustType holds Type against a type, or against an error.
func mustType(t *testing.T, e api.Expr, cols, params []int, want int, wantErr api.Errno) {
	t.Helper()
	if got, err := typing.Type(e, cols, params); got != want || err != wantErr {
		t.Errorf("Type(%v, %d, %d) is %d, %d, want %d, %d", e, cols, params, got, err, want, wantErr)
	}
}

// mustResolve holds Resolve against an expression, or against an error.
func mustResolve(t *testing.T, tab api.Table, e, want api.Expr, wantErr api.Errno) {
	t.Helper()
	if got, err := typing.Resolve(tab, e); !expr.Same(got, want) || err != wantErr {
		t.Errorf("Resolve(%v, %v) is %v, %d, want %v, %d", tab.Cols, e, got, err, want, wantErr)
	}
}

// P15.1: Resolve by hand.
func TestResolve(t *testing.T) {
	tab := columns("a", "b", "c")
	for _, x := range []struct{ e, want api.Expr }{
		{col("a"), slot(0)}, {col("b"), slot(1)}, {col("c"), slot(2)},
		{lit(0), lit(0)}, {of(api.Null), of(api.Null)}, {of(api.Bool), of(api.Bool)}, {api.Expr{Kind: api.Lit, V: text("a")}, api.Expr{Kind: api.Lit, V: text("a")}}, {par(1), par(1)}, {par(6), par(6)},
		{un(api.Neg, col("b")), un(api.Neg, slot(1))}, {un(api.IsNull, un(api.Not, col("a"))), un(api.IsNull, un(api.Not, slot(0)))},
		{bin(api.Add, col("c"), col("a")), bin(api.Add, slot(2), slot(0))}, {bin(api.Cat, par(1), col("a")), bin(api.Cat, par(1), slot(0))}, {bin(api.Eq, col("b"), col("b")), bin(api.Eq, slot(1), slot(1))},
		{in(col("a"), lit(1), col("b"), of(api.Text), col("c"), col("a"), par(2)), in(slot(0), lit(1), slot(1), of(api.Text), slot(2), slot(0), par(2))},
		{call("coalesce", col("c"), col("b"), bin(api.Or, col("a"), lit(1)), call("abs", call("length", col("c")))), call("coalesce", slot(2), slot(1), bin(api.Or, slot(0), lit(1)), call("abs", call("length", slot(2))))},
		{tower(8, col("b")), tower(8, slot(1))},
	} {
		mustResolve(t, tab, x.e, x.want, api.OK)
	}
}

// P15.1: Resolve asks neither for types nor for signs; all kinds stay what they are.
func TestResolveOfAllSigns(t *testing.T) {
	tab := columns("z", "a")
	for op := 1; op <= 4; op++ {
		mustResolve(t, tab, un(op, col("a")), un(op, slot(1)), api.OK)
	}
	for op := 1; op <= 14; op++ {
		mustResolve(t, tab, bin(op, of(op%4), col("a")), bin(op, of(op%4), slot(1)), api.OK)
		mustResolve(t, tab, bin(op, col("a"), col("z")), bin(op, slot(1), slot(0)), api.OK)
	}
	for n := 2; n <= 9; n++ {
		e, want := in(slices.Repeat([]api.Expr{col("a")}, n)...), in(slices.Repeat([]api.Expr{slot(1)}, n)...)
		mustResolve(t, tab, e, want, api.OK)
		e.Kids[n-1], want.Kids[n-1] = col("z"), slot(0)
		mustResolve(t, tab, e, want, api.OK)
		e.Kids[n-1] = col("y")
		mustResolve(t, tab, e, api.Expr{}, api.ErrNone)
	}
	for n := 1; n <= 4; n++ {
		mustResolve(t, tab, call("coalesce", slices.Repeat([]api.Expr{col("a")}, n)...), call("coalesce", slices.Repeat([]api.Expr{slot(1)}, n)...), api.OK)
	}
	mustResolve(t, tab, call("abs", col("a")), call("abs", slot(1)), api.OK)
	mustResolve(t, tab, call("length", col("z")), call("length", slot(0)), api.OK)
}

// P15.1: a column that is not there, at each place of a tree.
func TestResolveOfNone(t *testing.T) {
	tab := columns("a", "b")
	for _, e := range []api.Expr{
		col("c"), col("aa"), col("t"), col("root"), un(api.IsNull, col("c")), bin(api.Add, col("c"), col("a")), bin(api.Add, col("a"), col("c")), bin(api.Add, par(1), un(api.Neg, col("c"))),
		in(col("c"), lit(1)), in(lit(1), lit(2), col("c")), in(lit(1), col("c"), col("a")), call("coalesce", col("a"), col("c"), col("b")), call("abs", call("length", col("c"))), tower(8, col("c")),
	} {
		mustResolve(t, tab, e, api.Expr{}, api.ErrNone)
	}
	for _, e := range []api.Expr{col("a"), bin(api.Or, lit(1), col("a"))} {
		mustResolve(t, api.Table{}, e, api.Expr{}, api.ErrNone)
		mustResolve(t, api.Table{Cols: []api.Column{{Name: ""}, {Name: "A"}}}, e, api.Expr{}, api.ErrNone)
	}
	mustResolve(t, api.Table{}, bin(api.Or, lit(1), par(3)), bin(api.Or, lit(1), par(3)), api.OK)
}

// P15.1: places above the greatest one of a Slot are none; of columns of one name the first counts.
func TestResolveOfPlaces(t *testing.T) {
	tab := columns("a", "b", "c", "d", "e", "f", "g", "h", "a", "f")
	for i, name := range []string{"a", "b", "c", "d", "e", "f"} {
		mustResolve(t, tab, col(name), slot(i), api.OK)
		mustResolve(t, tab, un(api.Neg, col(name)), un(api.Neg, slot(i)), api.OK)
	}
	for _, name := range []string{"g", "h", "i"} {
		mustResolve(t, tab, col(name), api.Expr{}, api.ErrNone)
		mustResolve(t, tab, bin(api.Or, col("f"), un(api.Neg, col(name))), api.Expr{}, api.ErrNone)
	}
	twice := columns("b", "a", "b", "a", "c", "a", "a")
	mustResolve(t, twice, bin(api.Add, col("a"), col("b")), bin(api.Add, slot(1), slot(0)), api.OK)
	mustResolve(t, twice, col("c"), slot(4), api.OK)
	many := columns(slices.Repeat([]string{"x"}, 1<<20)...)
	many.Cols[5].Name, many.Cols[6].Name, many.Cols[1<<20-1].Name = "a", "b", "c"
	mustResolve(t, many, in(col("x"), col("a")), in(slot(0), slot(5)), api.OK)
	mustResolve(t, many, col("b"), api.Expr{}, api.ErrNone)
	mustResolve(t, many, col("c"), api.Expr{}, api.ErrNone)
}

// P15.1: a table's other parts, right or not, are nothing to Resolve.
func TestResolveOfWrongTables(t *testing.T) {
	tab := columns("b", "a", "B", "")
	tab.Name, tab.Owner, tab.Version = "A", "", -7
	tab.Cols[1].Type = 99
	tab.Cons, tab.Idx = []api.Cons{{Name: "c", Cols: []string{"c"}}}, []api.Index{{Name: "d"}}
	mustResolve(t, tab, col("a"), slot(1), api.OK)
	mustResolve(t, tab, col("c"), api.Expr{}, api.ErrNone)
	mustResolve(t, tab, col("d"), api.Expr{}, api.ErrNone)
	mustResolve(t, tab, col("B"), api.Expr{}, api.ErrArg)
	mustResolve(t, tab, col(""), api.Expr{}, api.ErrArg)
}

// wrongs are expressions that may not be, with slots or without.
func wrongs() []api.Expr {
	return []api.Expr{
		{}, {Kind: -1}, {Kind: 9, Op: 1}, {Kind: least}, {Kind: most}, lit(-1), {Kind: api.Lit, V: api.Value{Kind: 4}}, {Kind: api.Lit, V: api.Value{N: 1}}, col(""), col("A"), col("abcdefghijklm"), par(0), par(7), par(-1), par(least), par(most),
		slot(-1), slot(6), slot(least), slot(most), un(0, lit(1)), un(5, lit(1)), {Kind: api.Un, Op: 1}, {Kind: api.Un, Op: 1, Kids: make([]api.Expr, 2)}, bin(0, lit(1), lit(1)), bin(15, lit(1), lit(1)), {Kind: api.Bin, Op: 1}, {Kind: api.Bin, Op: 9, Kids: []api.Expr{lit(1)}},
		in(), in(lit(1)), in(slices.Repeat([]api.Expr{lit(1)}, 10)...), call("abs"), call("length"), call("coalesce"), call("abs", lit(1), lit(1)), call("count", lit(1)), call("", lit(1)), call("coalesce", slices.Repeat([]api.Expr{lit(1)}, 5)...),
		{Kind: api.Par, Op: 1, Kids: []api.Expr{lit(1)}}, {Kind: api.Slot, Name: "a"}, {Kind: api.Lit, Op: 1}, {Kind: api.Col, Name: "a", Op: 1},
	}
}

// P15.1 to P15.3: what may not be is told ahead of all else, by Resolve, by Type and by Bool.
func TestWrongs(t *testing.T) {
	tab, types := columns("a"), []int{api.Int}
	for _, e := range wrongs() {
		for _, x := range []api.Expr{e, un(api.Neg, e), bin(api.Add, col("c"), e), bin(api.Add, e, of(api.Text)), in(bin(api.Add, of(api.Text), lit(1)), par(6), e), call("coalesce", lit(1), of(api.Text), e)} {
			mustResolve(t, tab, x, api.Expr{}, api.ErrArg)
			mustType(t, x, types, types, 0, api.ErrArg)
			if err := typing.Bool(x, types, types); err != api.ErrArg {
				t.Errorf("Bool of %v is %d", x, err)
			}
		}
	}
	for n := 1; n <= 5; n++ {
		mustResolve(t, columns("a", "b", "c", "d", "e", "f"), slot(n), api.Expr{}, api.ErrArg)
	}
	mustResolve(t, tab, bin(api.Add, col("c"), slot(0)), api.Expr{}, api.ErrArg)
}

// P15.1 to P15.3: what is too high is told ahead of what is not right.
func TestDeep(t *testing.T) {
	tab, types := columns("a"), []int{api.Int}
	for _, n := range []int{9, 10, 1000, 1 << 16} {
		for _, e := range []api.Expr{tower(n, lit(1)), tower(n, col("a")), tower(n, col("c")), tower(n, par(99)), in(api.Expr{}, tower(n-1, lit(1))), bin(99, tower(n-1, lit(1)), lit(-1))} {
			mustResolve(t, tab, e, api.Expr{}, api.ErrDeep)
			mustType(t, e, types, types, 0, api.ErrDeep)
			if err := typing.Bool(e, types, types); err != api.ErrDeep {
				t.Errorf("Bool of height %d is %d", n, err)
			}
		}
	}
	mustType(t, tower(8, lit(1)), nil, nil, api.Bool, api.OK)
	mustType(t, tower(8, slot(0)), types, nil, api.Bool, api.OK)
	if err := typing.Bool(tower(8, par(1)), nil, types); err != api.OK {
		t.Errorf("Bool of height 8 is %d", err)
	}
}

// P15.1: Cols and Kinds are told as they stand, whatever they are and however many.
func TestColsAndKinds(t *testing.T) {
	if l := typing.Cols(api.Table{}); len(l) != 0 {
		t.Errorf("Cols of no columns are %d", l)
	}
	if l := append(typing.Kinds(nil), typing.Kinds([]api.Value{})...); len(l) != 0 {
		t.Errorf("Kinds of no values are %d", l)
	}
	want := append([]int{api.Text, api.Int, api.Bool, api.Int, api.Null, api.Text, api.Int}, others()...)
	var tab api.Table
	var values []api.Value
	for i, n := range want {
		tab.Cols = append(tab.Cols, api.Column{Name: "a", Type: n, NotNull: i%2 == 0})
		values = append(values, api.Value{Kind: n, N: i, S: "\x00"})
		if l := typing.Cols(tab); !slices.Equal(l, want[:i+1]) {
			t.Errorf("Cols are %d", l)
		}
		if l := typing.Kinds(values); !slices.Equal(l, want[:i+1]) {
			t.Errorf("Kinds are %d", l)
		}
	}
	tab.Cols, values = make([]api.Column, 1<<20), make([]api.Value, 1<<20)
	tab.Cols[1<<20-1].Type, values[1<<20-1].Kind = 7, 8
	if l := typing.Cols(tab); len(l) != 1<<20 || l[1<<20-1] != 7 {
		t.Error("Cols of many")
	}
	if l := typing.Kinds(values); len(l) != 1<<20 || l[1<<20-1] != 8 {
		t.Error("Kinds of many")
	}
}
