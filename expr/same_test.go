package expr_test

import (
	"reflect"
	"slices"
	"testing"

	"registrar/api"
	"registrar/expr"
)

// trees are trees of all kinds, no two of them the same; some are not right.
func trees() []api.Expr {
	l := []api.Expr{
		{}, {Kind: -1}, {Op: 1}, {Op: -1}, {V: number(0)}, {V: api.Value{N: 1}}, {V: text("")}, {V: text("a")}, {Name: "a"}, {Name: "b"}, {Name: "A"},
		{Kids: make([]api.Expr, 1)}, {Kids: make([]api.Expr, 2)}, {Kids: []api.Expr{{Kids: make([]api.Expr, 1)}}},
		{Kids: []api.Expr{{}, {Op: 1}}}, {Kids: []api.Expr{{Op: 1}, {}}}, {Kids: []api.Expr{{Op: 1}, {Op: 1}}}, {Kids: []api.Expr{{Op: 1}}},
		slot(0), slot(1), col("b"), bin(api.Add, col("b"), col("a")), bin(api.Add, col("a"), col("b")), bin(api.Sub, col("a"), col("b")),
		in(lit(1), lit(2)), in(lit(2), lit(1)), in(lit(1), lit(1), lit(2)), call("abs", lit(2)), call("length", lit(2)),
		un(api.Not, un(api.Neg, lit(1))), un(api.Neg, un(api.Not, lit(1))), tower(20), tower(21),
		{Kind: api.Call, Op: 3, V: api.Value{Kind: 9, N: least, S: "\xff"}, Name: "\x00", Kids: []api.Expr{tower(4), {}, in(some(12)...)}},
	}
	for _, e := range rights() {
		if e.Kids == nil || len(e.Kids) > 0 {
			l = append(l, e)
		}
	}
	return l
}

// P10.1: Same of trees, each against each.
func TestSame(t *testing.T) {
	l, other := trees(), trees()
	for i, a := range l {
		for j, b := range other {
			if same := expr.Same(a, b); same != reflect.DeepEqual(a, b) {
				t.Errorf("that tree %d is tree %d is %t", i, j, same)
			}
			if same := expr.Same(in(lit(1), call("abs", a)), in(lit(1), call("abs", b))); same != reflect.DeepEqual(a, b) {
				t.Errorf("that tree %d is tree %d within others is %t", i, j, same)
			}
		}
	}
}

// change hands on a tree with each one field of one of its parts changed.
func change(e api.Expr, use func(api.Expr)) {
	for i := range 10 {
		x := e
		switch i {
		case 0:
			x.Kind++
		case 1:
			x.Op--
		case 2:
			x.V.Kind++
		case 3:
			x.V.N += 1 << 32
		case 4:
			x.V.S += "a"
		case 5:
			x.Name += "a"
		case 6:
			x.Kids = append(slices.Clone(e.Kids), api.Expr{})
		case 7:
			x.Kids = append([]api.Expr{{Kind: 77}}, e.Kids...)
		default:
			if len(e.Kids) == 0 {
				continue
			}
			x.Kids = e.Kids[i-8 : len(e.Kids)-9+i]
		}
		use(x)
	}
	for i, kid := range e.Kids {
		change(kid, func(kid api.Expr) {
			x := e
			x.Kids = slices.Clone(e.Kids)
			x.Kids[i] = kid
			use(x)
		})
	}
}

// P10.1: two trees are another one by whatever field of whatever part.
func TestSameOfChanged(t *testing.T) {
	for i, e := range trees() {
		change(e, func(x api.Expr) {
			if expr.Same(e, x) && !reflect.DeepEqual(e, x) || expr.Same(x, e) && !reflect.DeepEqual(e, x) {
				t.Errorf("tree %d is the same as %v", i, x)
			}
		})
	}
}

// P10.1, R3: no kids and an empty list of them are one.
func TestSameOfEmpty(t *testing.T) {
	none, empty := col("a"), col("a")
	empty.Kids = make([]api.Expr, 0, 5)
	if !expr.Same(none, empty) || !expr.Same(empty, none) || !expr.Same(in(none, empty), in(empty, none)) {
		t.Error("an empty list is not the same as none")
	}
	if !expr.Same(expr.Clone(none), expr.Clone(empty)) || expr.Check(empty, false) != api.OK {
		t.Error("an empty list is not taken as none")
	}
}

// spoil writes to all that a tree is made of, the spare room of its lists included.
func spoil(e api.Expr) {
	for _, kid := range e.Kids {
		spoil(kid)
	}
	for i := range e.Kids[:cap(e.Kids)] {
		e.Kids[:cap(e.Kids)][i] = api.Expr{Kind: 55, Name: "spoilt"}
	}
}

// P10.1: a clone is the same, and what becomes of it or of the tree the other one does not tell.
func TestClone(t *testing.T) {
	l, kept := trees(), trees()
	for i, e := range l {
		one, two := expr.Clone(e), expr.Clone(e)
		if !reflect.DeepEqual(one, e) {
			t.Errorf("the clone of tree %d is %v", i, one)
		}
		spoil(one)
		if !reflect.DeepEqual(e, kept[i]) || !reflect.DeepEqual(two, kept[i]) {
			t.Errorf("tree %d is spoilt with its clone", i)
		}
		spoil(e)
		if !reflect.DeepEqual(two, kept[i]) {
			t.Errorf("the clone of tree %d is spoilt with it", i)
		}
	}
}

// P10.1: what a tree has twice its clone has two of.
func TestCloneOfShared(t *testing.T) {
	shared := make([]api.Expr, 2, 9)
	copy(shared, some(2))
	e := bin(api.Or, in(shared...), in(shared[:2]...))
	e.Kids[0].Kids, e.Kids[1].Kids = shared, shared
	c := expr.Clone(e)
	c.Kids[0].Kids[1] = col("b")
	if !expr.Same(c, bin(api.Or, in(lit(0), col("b")), in(some(2)...))) || !expr.Same(e, bin(api.Or, in(some(2)...), in(some(2)...))) {
		t.Error("the lists of a clone are shared")
	}
	_ = append(c.Kids[1].Kids, col("c"))
	if !reflect.DeepEqual(shared[:9][2:], make([]api.Expr, 7)) {
		t.Error("spare room is shared")
	}
}

// R3: no call changes what is handed in, spare room included.
func TestNothingIsChanged(t *testing.T) {
	for i, e := range trees() {
		e.Kids = append(make([]api.Expr, 0, len(e.Kids)+3), e.Kids...)
		for k := range 3 {
			e.Kids[:cap(e.Kids)][len(e.Kids)+k] = col("spare")
		}
		kept := expr.Clone(e)
		expr.Height(e)
		expr.Check(e, true)
		expr.Print(e)
		expr.Same(e, kept)
		expr.Names(e)
		expr.Params(e)
		if !expr.Same(e, trees()[i]) || !expr.Same(kept, e) {
			t.Errorf("tree %d is changed", i)
		}
		for k := range 3 {
			if !reflect.DeepEqual(e.Kids[:cap(e.Kids)][len(e.Kids)+k], col("spare")) {
				t.Errorf("the spare room of tree %d is changed", i)
			}
		}
	}
}

// P10.1: trees as deep as may be.
func TestSameOfDeep(t *testing.T) {
	a, b := tower(1<<16), tower(1<<16)
	if !expr.Same(a, b) || expr.Same(a, tower(1<<16-1)) {
		t.Error("deep trees are not the same")
	}
	c := expr.Clone(a)
	spoil(a)
	if !expr.Same(c, b) {
		t.Error("the clone of a deep tree is another one")
	}
}
