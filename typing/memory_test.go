package typing_test

import (
	"slices"
	"testing"

	"registrar/api"
	"registrar/expr"
	"registrar/typing"
)

// roomy is a tree whose lists of kids have spare room, filled with marks.
func roomy(e api.Expr) (api.Expr, []api.Expr) {
	n := len(e.Kids)
	room := append(slices.Clone(e.Kids), lit(77), lit(88), lit(99))
	for i := range n {
		room[i], _ = roomy(room[i])
	}
	e.Kids = room[:n]
	return e, room
}

// spoil writes over all lists of a tree, spare room included.
func spoil(e api.Expr) {
	for _, kid := range e.Kids {
		spoil(kid)
	}
	kids := e.Kids[:cap(e.Kids)]
	for i := range kids {
		kids[i] = api.Expr{Kind: 66, Op: 66}
	}
}

// P15.1: a resolved expression has memory of its own, and what was handed in is neither changed nor kept.
func TestResolveSharesNothing(t *testing.T) {
	tab := columns("a", "b", "c", "d", "z", "f", "g")
	for _, m := range makers(300) {
		e := m.rename(m.tree(1+m.below(5), m.below(4)), columns("a", "b", "c"))
		e, room := roomy(e)
		was, wasRoom := expr.Clone(e), slices.Clone(room)
		got, err := typing.Resolve(tab, e)
		if err != api.OK {
			t.Fatalf("Resolve(%v) is %d", e, err)
		}
		own := expr.Clone(got)
		spoil(got)
		if !expr.Same(e, was) || !slices.EqualFunc(room, wasRoom, expr.Same) {
			t.Fatalf("Resolve shares memory with %v", was)
		}
		again, _ := typing.Resolve(tab, e)
		spoil(e)
		if !expr.Same(again, own) {
			t.Fatalf("Resolve keeps memory of %v", was)
		}
	}
	want := columns("a", "b", "c", "d", "z", "f", "g")
	if !slices.Equal(tab.Cols, want.Cols) {
		t.Error("Resolve changed the table")
	}
}

// P15.1: parts that share memory where they come in have each a list of its own in what is answered.
func TestResolvePartsShareNothing(t *testing.T) {
	both := bin(api.Add, col("a"), lit(1))
	e := in(both, both, un(api.Neg, both))
	got, err := typing.Resolve(columns("b", "a"), e)
	if err != api.OK {
		t.Fatal(err)
	}
	got.Kids[0].Kids[0], got.Kids[2].Kids[0].Kids[1] = par(1), par(2)
	if want := in(bin(api.Add, par(1), lit(1)), bin(api.Add, slot(1), lit(1)), un(api.Neg, bin(api.Add, slot(1), par(2)))); !expr.Same(got, want) {
		t.Errorf("Resolve is %v, want %v", got, want)
	}
}

// P15.1: a tree that is small in memory and has very many parts is resolved, and typed.
func TestManyParts(t *testing.T) {
	e, n := col("b"), 1
	for range 6 {
		e = in(slices.Repeat([]api.Expr{e}, 7)...)
		n = 1 + 7*n
	}
	got, err := typing.Resolve(columns("a", "b"), e)
	if err != api.OK {
		t.Fatal(err)
	}
	mustType(t, got, []int{api.Int, api.Bool}, nil, api.Bool, api.OK)
	parts := 0
	var count func(e api.Expr)
	count = func(e api.Expr) {
		parts++
		for _, kid := range e.Kids {
			count(kid)
		}
	}
	if count(got); parts != n {
		t.Errorf("Resolve has %d parts, want %d", parts, n)
	}
}

// P15.1 to P15.3: the lists that are handed in stay as they are, spare room included, and lists that are answered are their caller's.
func TestListsStay(t *testing.T) {
	cols, params := []int{api.Int, api.Null, 7, 7, 7, 7, 7}, []int{api.Text, api.Null, 8, 8, 8, 8, 8}
	e := call("coalesce", bin(api.Add, slot(0), slot(1)), call("length", bin(api.Cat, par(1), par(2))))
	mustType(t, e, cols[:2], params[:2], api.Int, api.OK)
	mustType(t, bin(api.Add, e, slot(2)), cols[:2], params[:2], 0, api.ErrCount)
	if err := typing.Bool(e, cols[:2], params[:2]); err != api.ErrType {
		t.Error(err)
	}
	if !slices.Equal(cols, []int{api.Int, api.Null, 7, 7, 7, 7, 7}) || !slices.Equal(params, []int{api.Text, api.Null, 8, 8, 8, 8, 8}) {
		t.Errorf("the lists are %d and %d", cols, params)
	}
	tab, values := columns("a", "b"), []api.Value{number(1), text("x")}
	for _, l := range [][]int{typing.Cols(tab), typing.Kinds(values)} {
		l[0], l[1] = 99, 99
	}
	if l := typing.Cols(tab); !slices.Equal(l, []int{api.Int, api.Bool}) || tab.Cols[0].Type != api.Int {
		t.Errorf("Cols are %d", l)
	}
	if l := typing.Kinds(values); !slices.Equal(l, []int{api.Int, api.Text}) || values[1] != text("x") {
		t.Errorf("Kinds are %d", l)
	}
}

// P15.1, P15.2: what stands in the spare room of a list is not there.
func TestSpareRoom(t *testing.T) {
	tab := columns("a", "b", "c", "d", "e", "f")
	for n := range 6 {
		part := tab
		part.Cols = tab.Cols[:n]
		for i, c := range tab.Cols {
			want, wantErr := slot(i), api.OK
			if i >= n {
				want, wantErr = api.Expr{}, api.ErrNone
			}
			mustResolve(t, part, col(c.Name), want, wantErr)
		}
		if l := typing.Cols(part); len(l) != n {
			t.Errorf("Cols of %d are %d", n, l)
		}
		values := make([]api.Value, 6)
		if l := typing.Kinds(values[:n]); len(l) != n {
			t.Errorf("Kinds of %d are %d", n, l)
		}
		types := []int{api.Int, api.Int, api.Int, api.Int, api.Int, api.Int}
		mustType(t, slot(n), types[:n], types, 0, api.ErrCount)
		mustType(t, par(n+1), types, types[:n], 0, api.ErrCount)
	}
	kids := []api.Expr{lit(1), par(9), col("z")}
	for _, e := range []api.Expr{of(api.Text), slot(0), par(1)} {
		e.Kids = kids[:0]
		mustType(t, e, []int{api.Text}, []int{api.Text}, api.Text, api.OK)
	}
	a := api.Expr{Kind: api.Col, Name: "a", Kids: kids[:0]}
	mustResolve(t, tab, a, slot(0), api.OK)
	mustType(t, a, nil, nil, 0, api.ErrNone)
	kids[1] = lit(2)
	mustResolve(t, tab, in(kids[:2]...), in(lit(1), lit(2)), api.OK)
	mustType(t, in(kids[:2]...), nil, nil, api.Bool, api.OK)
}
