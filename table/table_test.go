package table_test

import (
	"slices"
	"strconv"
	"strings"
	"testing"

	"registrar/api"
	"registrar/table"
)

const (
	most  = 1<<63 - 1
	least = -1 << 63
)

func lit(n int) api.Expr { return api.Expr{Kind: api.Lit, V: number(n)} }

func col(name string) api.Expr { return api.Expr{Kind: api.Col, Name: name} }

func par(n int) api.Expr { return api.Expr{Kind: api.Par, Op: n} }

func un(op int, kid api.Expr) api.Expr {
	return api.Expr{Kind: api.Un, Op: op, Kids: []api.Expr{kid}}
}

func bin(op int, a, b api.Expr) api.Expr {
	return api.Expr{Kind: api.Bin, Op: op, Kids: []api.Expr{a, b}}
}

// tower is a part under signs, so high that its height is n.
func tower(n int, e api.Expr) api.Expr {
	for range n - 1 {
		e = un(api.Not, e)
	}
	return e
}

func names(l ...string) []string { return l }

// unique, check and foreign are constraints, each with what it may have.
func unique(name string, cols ...string) api.Cons {
	return api.Cons{Name: name, Kind: api.Unique, Cols: cols}
}

func check(name string, e api.Expr) api.Cons {
	return api.Cons{Name: name, Kind: api.Check, Check: e}
}

func foreign(name, other string, cols, refs []string) api.Cons {
	return api.Cons{Name: name, Kind: api.Foreign, Cols: cols, Table: other, Refs: refs}
}

func null() api.Value { return api.Value{} }

func number(n int) api.Value { return api.Value{Kind: api.Int, N: n} }

func truth(n int) api.Value { return api.Value{Kind: api.Bool, N: n} }

func text(s string) api.Value { return api.Value{Kind: api.Text, S: s} }

func values(l ...api.Value) []api.Value { return l }

// whole is a right table with something of each kind, and as many constraints as may be.
func whole() api.Table {
	return api.Table{
		Name: "t", Owner: "root", Version: 3,
		Cols: []api.Column{{Name: "a", Type: api.Int, NotNull: true}, {Name: "b", Type: api.Bool}, {Name: "c", Type: api.Text}, {Name: "d", Type: api.Int}},
		Cons: []api.Cons{
			unique("k", "a"), check("g", bin(api.Gt, col("a"), col("d"))), foreign("f", "u", names("c", "a"), names("x", "y")),
			check("h", col("b")), unique("l", "d", "c", "b"), foreign("e", "t", names("d"), names("a")),
		},
		Idx: []api.Index{{Name: "i", Cols: names("a", "b")}, {Name: "j", Cols: names("d")}},
	}
}

// columns is a table of columns of these names alone.
func columns(l ...string) api.Table {
	var t api.Table
	for _, name := range l {
		t.Cols = append(t.Cols, api.Column{Name: name})
	}
	return t
}

// P14.2: Col by hand; of several columns of one name the first.
func TestCol(t *testing.T) {
	for _, x := range []struct {
		cols []string
		name string
		want int
	}{
		{nil, "a", -1}, {nil, "", -1}, {names("a"), "a", 0}, {names("a"), "b", -1}, {names("a"), "", -1}, {names("a"), "A", -1}, {names("a"), "aa", -1}, {names("aa"), "a", -1},
		{names("a", "b", "c"), "a", 0}, {names("a", "b", "c"), "b", 1}, {names("a", "b", "c"), "c", 2}, {names("a", "b", "c"), "d", -1},
		{names("a", "b", "a"), "a", 0}, {names("b", "a", "a", "c", "a"), "a", 1}, {names("b", "b", "a"), "a", 2}, {names("", "a", ""), "", 0}, {names("a", "", ""), "", 1},
		{names("a", "b", "c", "d", "e", "f", "g", "h"), "h", 7}, {names("A b\xff", "é"), "é", 1},
	} {
		if n := table.Col(columns(x.cols...), x.name); n != x.want {
			t.Errorf("Col of %q, %q is %d, want %d", x.cols, x.name, n, x.want)
		}
	}
	w := whole()
	for _, name := range names("t", "root", "k", "i", "x", "u", "g") {
		if n := table.Col(w, name); n != -1 {
			t.Errorf("Col of what is no column, %q, is %d", name, n)
		}
	}
}

// P14.2: Places by hand; one that is not there, wherever it stands, is ErrNone, and nothing else is told.
func TestPlaces(t *testing.T) {
	abc := names("a", "b", "c")
	for _, x := range []struct {
		cols, names []string
		want        []int
		err         api.Errno
	}{
		{nil, nil, nil, api.OK}, {abc, nil, nil, api.OK}, {abc, names(), nil, api.OK}, {nil, names("a"), nil, api.ErrNone},
		{abc, names("a"), []int{0}, api.OK}, {abc, names("c", "a", "b"), []int{2, 0, 1}, api.OK}, {abc, names("b", "b", "a", "b"), []int{1, 1, 0, 1}, api.OK},
		{abc, names("z"), nil, api.ErrNone}, {abc, names("z", "a"), nil, api.ErrNone}, {abc, names("a", "z"), nil, api.ErrNone}, {abc, names("a", "z", "b"), nil, api.ErrNone},
		{abc, names(""), nil, api.ErrNone}, {abc, names("a", "A"), nil, api.ErrNone}, {abc, names("aa"), nil, api.ErrNone},
		{names("a", "b", "a", "b", "c"), names("c", "b", "a"), []int{4, 1, 0}, api.OK}, {names("", "", "a"), names("a", ""), []int{2, 0}, api.OK},
		{names("a", "b", "c", "d", "e", "f", "g", "h"), names("h", "a", "g", "b", "f", "c", "e", "d"), []int{7, 0, 6, 1, 5, 2, 4, 3}, api.OK},
	} {
		if l, err := table.Places(columns(x.cols...), x.names); !slices.Equal(l, x.want) || err != x.err {
			t.Errorf("Places of %q, %q are %d, %d; want %d, %d", x.cols, x.names, l, err, x.want, x.err)
		}
	}
}

// P14.2: tables that may not be have places too, however many columns they have.
func TestPlacesOfMany(t *testing.T) {
	var tab api.Table
	var all []string
	var want []int
	for i := range 200000 {
		name := "n" + strconv.Itoa(i)
		tab.Cols = append(tab.Cols, api.Column{Name: name}, api.Column{Name: "n0"})
		all = append(all, name)
		want = append(want, 2*i)
	}
	slices.Reverse(all)
	slices.Reverse(want)
	if l, err := table.Places(tab, all); !slices.Equal(l, want) || err != api.OK {
		t.Errorf("Places of many are %d, %d", len(l), err)
	}
	if l, err := table.Places(tab, append(all, "n")); l != nil || err != api.ErrNone {
		t.Errorf("Places of many and one that is not there are %d, %d", len(l), err)
	}
	if n := table.Col(tab, "n199999"); n != 399998 {
		t.Errorf("Col of many is %d", n)
	}
}

// P14.2: Uses by hand: Cols whatever the kind, a Check's expression, and indexes; neither Refs, nor expressions of others, nor names of other things.
func TestUses(t *testing.T) {
	e := bin(api.And, col("x"), un(api.Not, bin(api.Eq, lit(1), col("a"))))
	for i, x := range []struct {
		t    api.Table
		want bool
	}{
		{api.Table{}, false}, {api.Table{Name: "a", Owner: "a", Cols: []api.Column{{Name: "a"}}}, false},
		{api.Table{Cons: []api.Cons{unique("k", "a")}}, true}, {api.Table{Cons: []api.Cons{unique("k", "b", "a")}}, true}, {api.Table{Cons: []api.Cons{unique("k", "b"), unique("l", "c", "a", "d")}}, true},
		{api.Table{Cons: []api.Cons{unique("a", "b")}}, false}, {api.Table{Cons: []api.Cons{unique("k", "aa", "A", "")}}, false},
		{api.Table{Cons: []api.Cons{check("c", e)}}, true}, {api.Table{Cons: []api.Cons{check("c", col("b")), check("d", e)}}, true}, {api.Table{Cons: []api.Cons{check("a", lit(1))}}, false},
		{api.Table{Cons: []api.Cons{check("c", api.Expr{Kind: api.Call, Name: "a", Kids: []api.Expr{col("b")}})}}, false},
		{api.Table{Cons: []api.Cons{check("c", tower(5000, col("a")))}}, true}, {api.Table{Cons: []api.Cons{check("c", tower(5000, col("b")))}}, false},
		{api.Table{Cons: []api.Cons{{Kind: api.Unique, Check: e}}}, false}, {api.Table{Cons: []api.Cons{{Kind: api.Foreign, Check: e}}}, false}, {api.Table{Cons: []api.Cons{{Check: e}, {Kind: 4, Check: e}, {Kind: -1, Check: e}}}, false},
		{api.Table{Cons: []api.Cons{foreign("f", "t", names("b"), names("a"))}}, false}, {api.Table{Name: "a", Cons: []api.Cons{foreign("f", "a", names("b"), names("a"))}}, false},
		{api.Table{Cons: []api.Cons{foreign("f", "t", names("a"), names("b"))}}, true}, {api.Table{Cons: []api.Cons{foreign("f", "t", names("b", "c", "a"), nil)}}, true},
		{api.Table{Cons: []api.Cons{{Kind: api.Check, Cols: names("a")}}}, true}, {api.Table{Cons: []api.Cons{{Cols: names("a")}}}, true}, {api.Table{Cons: []api.Cons{{Kind: 99, Cols: names("b", "a")}}}, true},
		{api.Table{Cons: []api.Cons{{Kind: api.Check, Refs: names("a"), Table: "a"}}}, false},
		{api.Table{Idx: []api.Index{{Name: "i", Cols: names("a")}}}, true}, {api.Table{Idx: []api.Index{{Cols: names("b")}, {Cols: names("b", "c", "a")}}}, true}, {api.Table{Idx: []api.Index{{Name: "a", Cols: names("b")}, {}}}, false},
		{api.Table{Cons: []api.Cons{unique("k", "b")}, Idx: []api.Index{{Cols: names("a")}}}, true}, {api.Table{Cons: []api.Cons{unique("k", "a")}, Idx: []api.Index{{Cols: names("b")}}}, true},
	} {
		if got := table.Uses(x.t, "a"); got != x.want {
			t.Errorf("Uses of %d is %t", i, got)
		}
	}
	w := whole()
	w.Cons, w.Idx = w.Cons[:2], nil
	for name, want := range map[string]bool{"a": true, "b": false, "c": false, "d": true, "z": false, "": false, "k": false, "g": false} {
		if got := table.Uses(w, name); got != want {
			t.Errorf("Uses of %q is %t", name, got)
		}
	}
	if !table.Uses(api.Table{Cons: []api.Cons{unique("k", "")}}, "") || table.Uses(api.Table{Cons: []api.Cons{{}}}, "") {
		t.Error("Uses of an empty name")
	}
}

// P14.2: Named by hand, whatever the kinds; columns, other tables and the table itself do not count.
func TestNamed(t *testing.T) {
	w := whole()
	for _, name := range names("k", "g", "f", "h", "l", "e", "i", "j") {
		if !table.Named(w, name) {
			t.Errorf("Named of %q is false", name)
		}
	}
	for _, name := range names("a", "b", "c", "d", "t", "u", "root", "x", "y", "", "K", "kk", "ij", "m") {
		if table.Named(w, name) {
			t.Errorf("Named of %q is true", name)
		}
	}
	for _, x := range []api.Table{
		{Cons: []api.Cons{{Name: "n"}}}, {Cons: []api.Cons{{Name: "n", Kind: 77}}}, {Idx: []api.Index{{Name: "n"}}}, {Idx: []api.Index{{}, {Name: "n"}}}, {Cons: []api.Cons{{}, {Name: "n"}, {}}, Idx: make([]api.Index, 9)},
	} {
		if !table.Named(x, "n") || table.Named(x, "o") {
			t.Errorf("Named of %v", x)
		}
	}
	if table.Named(api.Table{}, "") || !table.Named(api.Table{Idx: make([]api.Index, 1)}, "") {
		t.Error("Named of an empty name")
	}
}

// P14.3: Key by hand; where there is no place there is a Null.
func TestKey(t *testing.T) {
	odd := api.Value{Kind: 9, N: -4, S: "\xff"}
	r := values(number(1), text("b"), odd, null(), truth(1))
	for _, x := range []struct {
		r      []api.Value
		places []int
		want   []api.Value
	}{
		{nil, nil, nil}, {r, nil, nil}, {r, []int{}, nil}, {nil, []int{0}, values(null())}, {nil, []int{-1, 0, 1}, values(null(), null(), null())},
		{r, []int{0}, values(number(1))}, {r, []int{4, 0, 1}, values(truth(1), number(1), text("b"))}, {r, []int{0, 1, 2, 3, 4}, r}, {r, []int{1, 1, 1, 1, 1, 1, 1}, values(text("b"), text("b"), text("b"), text("b"), text("b"), text("b"), text("b"))},
		{r, []int{5}, values(null())}, {r, []int{-1}, values(null())}, {r, []int{2, -1, 0, 5, 4}, values(odd, null(), number(1), null(), truth(1))},
		{r[:2], []int{1, 2, 3, 4}, values(text("b"), null(), null(), null())}, {r, []int{most, least, 1 << 32, -1 << 32, 1<<32 + 1, 1}, values(null(), null(), null(), null(), null(), text("b"))},
	} {
		if l := table.Key(x.r, x.places); !slices.Equal(l, x.want) {
			t.Errorf("Key of %v, %d is %v, want %v", x.r, x.places, l, x.want)
		}
	}
}

// P14.3: Nulls by hand: a Null is what has that kind.
func TestNulls(t *testing.T) {
	for _, x := range []struct {
		l    []api.Value
		want bool
	}{
		{nil, false}, {values(), false}, {values(null()), true}, {values(number(0)), false}, {values(truth(0)), false}, {values(text("")), false}, {values(text("NULL")), false},
		{values(null(), number(1), number(2)), true}, {values(number(1), null(), number(2)), true}, {values(number(1), number(2), null()), true}, {values(null(), null()), true},
		{values(number(0), truth(0), text(""), api.Value{Kind: 4}, api.Value{Kind: -1}), false}, {values(api.Value{N: 1}), true}, {values(api.Value{S: "a"}), true},
	} {
		if got := table.Nulls(x.l); got != x.want {
			t.Errorf("Nulls of %v is %t", x.l, got)
		}
	}
}

// P14.3: Fits by hand: how many values, then types of all, then Nulls.
func TestFits(t *testing.T) {
	w := api.Table{Cols: []api.Column{{Name: "a", Type: api.Int, NotNull: true}, {Name: "b", Type: api.Bool}, {Name: "c", Type: api.Text, NotNull: true}}}
	for _, x := range []struct {
		r    []api.Value
		want api.Errno
	}{
		{values(number(1), truth(0), text("x")), api.OK}, {values(number(least), truth(1), text("")), api.OK}, {values(number(0), null(), text("it's")), api.OK},
		{nil, api.ErrCount}, {values(number(1), truth(0)), api.ErrCount}, {values(number(1), truth(0), text("x"), null()), api.ErrCount}, {values(text("x"), null()), api.ErrCount}, {values(null(), null(), null(), null()), api.ErrCount},
		{values(truth(1), truth(0), text("x")), api.ErrType}, {values(number(1), number(0), text("x")), api.ErrType}, {values(number(1), truth(0), number(3)), api.ErrType}, {values(text("1"), truth(0), text("x")), api.ErrType},
		{values(null(), truth(0), text("x")), api.ErrNull}, {values(number(1), truth(0), null()), api.ErrNull}, {values(null(), null(), null()), api.ErrNull},
		{values(null(), number(1), text("x")), api.ErrType}, {values(null(), null(), number(1)), api.ErrType}, {values(null(), text("x"), null()), api.ErrType}, {values(text("x"), null(), null()), api.ErrType}, {values(truth(0), truth(0), null()), api.ErrType},
		{values(number(1), truth(2), text("x")), api.ErrType}, {values(api.Value{Kind: api.Int, S: "a"}, truth(0), text("x")), api.ErrType}, {values(number(1), api.Value{N: 1}, text("x")), api.ErrType}, {values(number(1), truth(0), text("\n")), api.ErrType},
		{values(api.Value{S: "a"}, truth(0), text("x")), api.ErrType}, {values(number(1), truth(0), text(strings.Repeat("x", 33))), api.ErrType}, {values(number(1), truth(0), text(strings.Repeat("x", 32))), api.OK}, {values(number(1), api.Value{Kind: 4}, text("x")), api.ErrType},
	} {
		if err := table.Fits(w, x.r); err != x.want {
			t.Errorf("Fits of %v is %d, want %d", x.r, err, x.want)
		}
	}
}

// P14.3: tables that may not be: nothing fits a type that is none; a table without columns is fitted by a row without values.
func TestFitsOfWrong(t *testing.T) {
	if err := table.Fits(api.Table{}, nil); err != api.OK {
		t.Errorf("Fits of nothing is %d", err)
	}
	if err := table.Fits(api.Table{}, values(null())); err != api.ErrCount {
		t.Errorf("Fits of a value without a column is %d", err)
	}
	for _, typ := range []int{0, -1, 4, 99, 1 << 32, most, least} {
		for _, v := range values(null(), number(1), truth(1), text("a"), api.Value{Kind: typ}) {
			for _, notNull := range []bool{false, true} {
				w := api.Table{Cols: []api.Column{{Type: api.Int, NotNull: true}, {Type: typ, NotNull: notNull}}}
				if err := table.Fits(w, values(null(), v)); err != api.ErrType {
					t.Errorf("Fits of %v and type %d is %d", v, typ, err)
				}
			}
		}
	}
	var many api.Table
	r := make([]api.Value, 100)
	for range r {
		many.Cols = append(many.Cols, api.Column{Type: api.Text})
	}
	for i := range r {
		if err := table.Fits(many, r); err != api.OK {
			t.Fatalf("Fits of Nulls is %d", err)
		}
		many.Cols[i].NotNull = true
		if err := table.Fits(many, r); err != api.ErrNull {
			t.Errorf("Fits of a Null at %d is %d", i, err)
		}
		many.Cols[i].NotNull = false
		r[i] = text("a")
	}
	for i := range r {
		r[i] = number(1)
		if err := table.Fits(many, r); err != api.ErrType {
			t.Errorf("Fits of an Int at %d is %d", i, err)
		}
		r[i] = text("a")
	}
}
