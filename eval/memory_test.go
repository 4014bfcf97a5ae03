package eval_test

import (
	"slices"
	"testing"

	"registrar/api"
	"registrar/eval"
	"registrar/expr"
)

// roomy is a tree whose lists of kids have spare room, filled with marks, and the topmost list with its room.
func roomy(e api.Expr) (api.Expr, []api.Expr) {
	n := len(e.Kids)
	room := append(slices.Clone(e.Kids), lit(number(77)), lit(number(88)), lit(number(99)))
	for i := range n {
		room[i], _ = roomy(room[i])
	}
	e.Kids = room[:n]
	return e, room
}

// spoil writes over all lists of a tree, spare room included.
func spoil(e api.Expr) {
	for _, kid := range e.Kids {
		spoil(kid)
	}
	kids := e.Kids[:cap(e.Kids)]
	for i := range kids {
		kids[i] = api.Expr{Kind: 66, Op: 66}
	}
}

// P16.3: what is filled has memory of its own, and what was handed in is neither changed nor kept.
func TestFillSharesNothing(t *testing.T) {
	params := []api.Value{number(-1), number(least), text("x"), null(), number(5), yes()}
	for _, m := range makers(500) {
		m.params, m.wild = params, 100
		e, room := roomy(m.tree(1+m.below(5), m.below(4)))
		was, wasRoom := expr.Clone(e), slices.Clone(room)
		got, err := eval.Fill(e, params)
		if err != api.OK {
			t.Fatalf("Fill(%v) is %d", e, err)
		}
		own := expr.Clone(got)
		spoil(got)
		if !expr.Same(e, was) || !slices.EqualFunc(room, wasRoom, expr.Same) {
			t.Fatalf("Fill shares memory with %v", was)
		}
		again, _ := eval.Fill(e, params)
		spoil(e)
		if !expr.Same(again, own) {
			t.Fatalf("Fill keeps memory of %v", was)
		}
	}
	if !slices.Equal(params, []api.Value{number(-1), number(least), text("x"), null(), number(5), yes()}) {
		t.Errorf("the parameters are %v", params)
	}
}

// P16.3: parts that share memory where they come in, and one parameter used twice, have each a list of its own in what is answered.
func TestFillPartsShareNothing(t *testing.T) {
	both := bin(api.Add, par(1), par(2))
	e := in(both, both, un(api.Neg, both), par(1), par(1))
	got, err := eval.Fill(e, []api.Value{number(-4), number(least)})
	if err != api.OK {
		t.Fatal(err)
	}
	got.Kids[0].Kids[0] = slot(0)
	got.Kids[1].Kids[0].Kids[0] = slot(1)
	got.Kids[1].Kids[1].Kids[0].Kids[0] = slot(2)
	got.Kids[3].Kids[0] = slot(3)
	want := in(bin(api.Add, slot(0), lowest()), bin(api.Add, un(api.Neg, slot(1)), bin(api.Sub, un(api.Neg, slot(2)), lit(number(1)))), un(api.Neg, bin(api.Add, neg(4), lowest())), un(api.Neg, slot(3)), neg(4))
	if !expr.Same(got, want) {
		t.Errorf("Fill is %v, want %v", got, want)
	}
	if !expr.Same(e, in(both, both, un(api.Neg, both), par(1), par(1))) || !expr.Same(both, bin(api.Add, par(1), par(2))) {
		t.Error("Fill changed what was handed in")
	}
}

// P16.1 to P16.3: a refused Fill changes nothing either, and lists stay as they are, spare room included.
func TestListsStay(t *testing.T) {
	row, params := append(rights(), wrongs()...), append(wrongs(), rights()...)
	wasRow, wasParams := slices.Clone(row), slices.Clone(params)
	for n := range 7 {
		for _, e := range []api.Expr{in(slot(0), par(1), slot(n%6), par(6)), bin(api.Cat, slot(3), slot(4)), bin(api.And, slot(1), slot(2)), call("coalesce", slot(0), slot(0), par(2), slot(3)), tower(8, bin(api.Add, par(1), par(2))), tower(7, par(1))} {
			e, room := roomy(e)
			was := slices.Clone(room)
			eval.Eval(e, row[:n], params[:n])
			eval.Holds(e, row[:n], params[:n])
			eval.Fill(e, params[:n])
			eval.Fill(e, row[:n])
			eval.Fill(e, []api.Value{number(-1), number(-1), number(-1), number(-1), number(-1), number(-1)})
			if !slices.EqualFunc(room, was, expr.Same) {
				t.Errorf("%v is changed", was)
			}
		}
	}
	if !slices.Equal(row, wasRow) || !slices.Equal(params, wasParams) {
		t.Error("values are changed")
	}
}

// P16.1: what stands in the spare room of a list is not there.
func TestSpareRoom(t *testing.T) {
	kids := []api.Expr{lit(number(1)), par(9), col("z")}
	values := []api.Value{text("x")}
	for _, e := range []api.Expr{lit(text("x")), slot(0), par(1)} {
		e.Kids = kids[:0]
		mustEval(t, e, values, values, text("x"), api.OK)
		mustFill(t, e, values, map[int]api.Expr{api.Lit: lit(text("x")), api.Slot: slot(0), api.Par: lit(text("x"))}[e.Kind], api.OK)
	}
	kids[1] = lit(number(2))
	mustEval(t, in(kids[:2]...), nil, nil, no(), api.OK)
	mustEval(t, call("coalesce", kids[:1]...), nil, nil, number(1), api.OK)
	mustFill(t, in(kids[:2]...), nil, in(lit(number(1)), lit(number(2))), api.OK)
}

// P16.3: a tree that is small in memory and has very many parts is filled.
func TestFillOfManyParts(t *testing.T) {
	e, want := par(1), neg(2)
	for range 5 {
		e, want = call("coalesce", slices.Repeat([]api.Expr{e}, 4)...), call("coalesce", slices.Repeat([]api.Expr{want}, 4)...)
	}
	mustFill(t, e, []api.Value{number(-2)}, want, api.OK)
	mustFill(t, in(slices.Repeat([]api.Expr{e}, 9)...), []api.Value{number(-2)}, in(slices.Repeat([]api.Expr{want}, 9)...), api.OK)
}
