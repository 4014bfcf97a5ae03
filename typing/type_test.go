package typing_test

import (
	"slices"
	"testing"

	"registrar/api"
	"registrar/typing"
)

// P15.2: types of what has no kids.
func TestTypeOfLeaves(t *testing.T) {
	types := []int{api.Text, api.Int, api.Null, api.Bool, api.Int, api.Text}
	for typ := api.Null; typ <= api.Text; typ++ {
		mustType(t, of(typ), nil, nil, typ, api.OK)
		mustType(t, of(typ), types, types, typ, api.OK)
	}
	mustType(t, api.Expr{Kind: api.Lit, V: text("")}, nil, nil, api.Text, api.OK)
	mustType(t, api.Expr{Kind: api.Lit, V: api.Value{Kind: api.Bool}}, nil, nil, api.Bool, api.OK)
	mustType(t, api.Expr{Kind: api.Lit, V: number(most), Kids: []api.Expr{}}, nil, nil, api.Int, api.OK)
	for i, typ := range types {
		mustType(t, slot(i), types, nil, typ, api.OK)
		mustType(t, slot(i), types[:i+1], []int{99}, typ, api.OK)
		mustType(t, slot(i), types[:i], types, 0, api.ErrCount)
		mustType(t, par(i+1), nil, types, typ, api.OK)
		mustType(t, par(i+1), []int{99}, types[:i+1], typ, api.OK)
		mustType(t, par(i+1), types, types[:i], 0, api.ErrCount)
		mustType(t, slot(i), nil, types, 0, api.ErrCount)
		mustType(t, par(i+1), types, []int{}, 0, api.ErrCount)
	}
	long := slices.Repeat([]int{api.Text}, 1<<20)
	mustType(t, bin(api.Cat, slot(5), par(6)), long, long, api.Text, api.OK)
	for _, name := range []string{"a", "b", "abs"} {
		mustType(t, col(name), types, types, 0, api.ErrNone)
	}
}

// P15.2: numbers that are no types, which count where they are used alone.
func TestTypeOfOthers(t *testing.T) {
	for _, n := range others() {
		for i := range 6 {
			types := slices.Repeat([]int{api.Int}, 7)
			types[i] = n
			for _, e := range []api.Expr{slot(i), un(api.IsNull, slot(i)), bin(api.Eq, slot(i), slot(i)), call("coalesce", of(api.Null), slot(i))} {
				mustType(t, e, types, nil, 0, api.ErrType)
			}
			for _, e := range []api.Expr{par(i + 1), un(api.NotNull, par(i+1)), in(par(i+1), of(api.Null)), call("coalesce", par(i+1), of(api.Null))} {
				mustType(t, e, nil, types, 0, api.ErrType)
			}
			mustType(t, bin(api.Add, slot((i+1)%6), par((i+1)%6+1)), types, types, api.Int, api.OK)
			mustType(t, un(api.NotNull, lit(1)), types, types, api.Bool, api.OK)
		}
	}
}

// rule is what the chapter says of a sign: an expression of so many kids, which types they may have, and what that makes.
type rule struct {
	name string
	kids int
	make func(kids ...api.Expr) api.Expr
	says func(types ...int) (int, bool)
}

// takes is a rule of kids that are all of one type, or Null.
func takes(typ, makes int) func(types ...int) (int, bool) {
	return func(types ...int) (int, bool) {
		for _, t := range types {
			if t != typ && t != api.Null {
				return 0, false
			}
		}
		return makes, true
	}
}

// onePair asks whether two types agree.
func onePair(a, b int) bool { return a == b || a == api.Null || b == api.Null }

// eachPair asks whether each two agree, and tells the first that is not Null.
func eachPair(types ...int) (int, bool) {
	for i, a := range types {
		for _, b := range types[i+1:] {
			if !onePair(a, b) {
				return 0, false
			}
		}
	}
	for _, t := range types {
		if t != api.Null {
			return t, true
		}
	}
	return api.Null, true
}

// rules are those of all signs, lists and calls, of each count of kids that may be but for the longest lists.
func rules() []rule {
	unary := func(op int) func(kids ...api.Expr) api.Expr {
		return func(kids ...api.Expr) api.Expr { return api.Expr{Kind: api.Un, Op: op, Kids: kids} }
	}
	binary := func(op int) func(kids ...api.Expr) api.Expr {
		return func(kids ...api.Expr) api.Expr { return api.Expr{Kind: api.Bin, Op: op, Kids: kids} }
	}
	calling := func(name string) func(kids ...api.Expr) api.Expr {
		return func(kids ...api.Expr) api.Expr { return call(name, kids...) }
	}
	isBool := func(...int) (int, bool) { return api.Bool, true }
	l := []rule{
		{"Neg", 1, unary(api.Neg), takes(api.Int, api.Int)}, {"Not", 1, unary(api.Not), takes(api.Bool, api.Bool)}, {"IsNull", 1, unary(api.IsNull), isBool}, {"NotNull", 1, unary(api.NotNull), isBool},
		{"Or", 2, binary(api.Or), takes(api.Bool, api.Bool)}, {"And", 2, binary(api.And), takes(api.Bool, api.Bool)}, {"Cat", 2, binary(api.Cat), takes(api.Text, api.Text)},
		{"abs", 1, calling("abs"), takes(api.Int, api.Int)}, {"length", 1, calling("length"), takes(api.Text, api.Int)},
	}
	for _, op := range []int{api.Add, api.Sub, api.Mul, api.Div, api.Mod} {
		l = append(l, rule{"Add to Mod", 2, binary(op), takes(api.Int, api.Int)})
	}
	for _, op := range []int{api.Eq, api.Ne, api.Lt, api.Le, api.Gt, api.Ge} {
		l = append(l, rule{"Eq to Ge", 2, binary(op), func(types ...int) (int, bool) { return api.Bool, onePair(types[0], types[1]) }})
	}
	for n := 1; n <= 4; n++ {
		l = append(l, rule{"coalesce", n, calling("coalesce"), eachPair})
	}
	for n := 2; n <= 6; n++ {
		l = append(l, rule{"In", n, in, inSays})
	}
	return l
}

// inSays is the rule of a list: its first one agrees with each other one, which need not agree with one another.
func inSays(types ...int) (int, bool) {
	for _, t := range types[1:] {
		if !onePair(types[0], t) {
			return 0, false
		}
	}
	return api.Bool, true
}

// allTypes hands all lists of so many types to visit.
func allTypes(n int, visit func(types []int)) {
	types := make([]int, n)
	var next func(i int)
	next = func(i int) {
		if i == n {
			visit(types)
			return
		}
		for types[i] = api.Null; types[i] <= api.Text; types[i]++ {
			next(i + 1)
		}
	}
	next(0)
}

// kinds are ways to have kids of types: values, places of a row, parameters, and what is made of others.
func kinds() []func(typ int) api.Expr {
	return []func(typ int) api.Expr{
		of, slot, func(typ int) api.Expr { return par(typ + 1) },
		func(typ int) api.Expr { return call("coalesce", of(api.Null), slot(typ)) },
		func(typ int) api.Expr {
			return []api.Expr{call("coalesce", of(api.Null)), call("length", slot(3)), un(api.Not, par(3)), bin(api.Cat, par(1), slot(3))}[typ]
		},
	}
}

// P15.2: each sign over kids of all types.
func TestTypeOfSigns(t *testing.T) {
	types := []int{api.Null, api.Int, api.Bool, api.Text}
	for _, r := range rules() {
		allTypes(r.kids, func(l []int) {
			want, ok := r.says(l...)
			wantErr := api.OK
			if !ok {
				want, wantErr = 0, api.ErrType
			}
			for i, kind := range kinds() {
				var kids []api.Expr
				for _, typ := range l {
					kids = append(kids, kind(typ))
				}
				if got, err := typing.Type(r.make(kids...), types, types); got != want || err != wantErr {
					t.Errorf("Type of %s of %d, as %d, is %d, %d, want %d, %d", r.name, l, i, got, err, want, wantErr)
				}
			}
		})
	}
}

// P15.2: lists as long as may be.
func TestTypeOfLongLists(t *testing.T) {
	types := []int{api.Null, api.Int, api.Bool, api.Text}
	kids := make([]api.Expr, 9)
	for n := 7; n <= 9; n++ {
		allTypes(n, func(l []int) {
			for i, typ := range l {
				kids[i] = slot(typ)
			}
			want, ok := inSays(l...)
			if got, err := typing.Type(in(kids[:n]...), types, nil); ok != (err == api.OK) || !ok && err != api.ErrType || got != want {
				t.Errorf("Type of an In of %d is %d, %d", l, got, err)
			}
		})
	}
}

// P15.2: types by hand.
func TestTypeByHand(t *testing.T) {
	types := []int{api.Text, api.Int, api.Bool}
	a, b, c, null := slot(0), slot(1), slot(2), of(api.Null)
	for _, x := range []struct {
		e    api.Expr
		want int
		err  api.Errno
	}{
		{bin(api.Add, a, lit(1)), 0, api.ErrType}, {bin(api.Add, b, lit(1)), api.Int, api.OK}, {bin(api.Sub, null, null), api.Int, api.OK}, {un(api.Neg, null), api.Int, api.OK}, {call("abs", null), api.Int, api.OK}, {call("length", null), api.Int, api.OK},
		{bin(api.Cat, null, null), api.Text, api.OK}, {bin(api.Cat, a, b), 0, api.ErrType}, {bin(api.Cat, un(api.Neg, null), a), 0, api.ErrType}, {un(api.Not, null), api.Bool, api.OK}, {bin(api.And, null, null), api.Bool, api.OK}, {bin(api.Or, c, b), 0, api.ErrType},
		{bin(api.Eq, null, null), api.Bool, api.OK}, {bin(api.Lt, c, c), api.Bool, api.OK}, {bin(api.Ge, a, c), 0, api.ErrType}, {in(null, lit(1), a, c), api.Bool, api.OK}, {in(a, null, null), api.Bool, api.OK}, {in(b, null, a), 0, api.ErrType}, {in(lit(1), a, a), 0, api.ErrType},
		{call("coalesce", null), api.Null, api.OK}, {call("coalesce", null, null, null, null), api.Null, api.OK}, {call("coalesce", null, a), api.Text, api.OK}, {call("coalesce", null, a, null, b), 0, api.ErrType}, {call("coalesce", c), api.Bool, api.OK}, {call("coalesce", lit(1), c), 0, api.ErrType},
		{bin(api.And, bin(api.Gt, call("length", a), b), un(api.Not, in(a, of(api.Text), null))), api.Bool, api.OK}, {bin(api.And, bin(api.Gt, call("length", a), b), un(api.Neg, in(a, of(api.Text), null))), 0, api.ErrType},
		{call("abs", call("coalesce", null, null)), api.Int, api.OK}, {call("length", call("coalesce", null, b)), 0, api.ErrType}, {un(api.IsNull, bin(api.Add, a, b)), 0, api.ErrType}, {un(api.NotNull, un(api.IsNull, a)), api.Bool, api.OK},
	} {
		mustType(t, x.e, types, nil, x.want, x.err)
	}
}

// faults are parts that have an error of their own, or by one of their kids.
func faults() map[api.Errno][]api.Expr {
	return map[api.Errno][]api.Expr{
		api.ErrNone:  {col("a"), un(api.Neg, col("b")), bin(api.Add, col("c"), slot(5)), bin(api.Add, of(api.Text), col("a"))},
		api.ErrCount: {slot(5), par(6), un(api.Not, slot(4)), bin(api.Add, of(api.Text), par(5)), in(lit(1), of(api.Text), slot(5)), bin(api.Or, slot(5), col("a"))},
		api.ErrType:  {un(api.Neg, of(api.Text)), bin(api.Eq, lit(1), of(api.Text)), slot(1), par(1), un(api.IsNull, slot(1)), in(slot(1), col("a")), call("coalesce", un(api.Not, lit(1)), slot(5))},
	}
}

// P15.2: of several errors the first in the order of the text is told, and those of kids ahead of what is made of them.
func TestTypeOfFirstErrors(t *testing.T) {
	cols, params := []int{api.Int, 99}, []int{-1}
	good := []api.Expr{lit(1), of(api.Null), of(api.Bool), of(api.Text), slot(0), un(api.IsNull, slot(0))}
	for wantErr, l := range faults() {
		for i, e := range l {
			mustType(t, e, cols, params, 0, wantErr)
			for _, r := range rules() {
				for place := range r.kids {
					kids := make([]api.Expr, r.kids)
					for j := range kids {
						kids[j] = good[(i+j)%len(good)]
					}
					kids[place] = e
					mustType(t, r.make(kids...), cols, params, 0, wantErr)
					for _, others := range faults() {
						for j := place + 1; j < r.kids; j++ {
							kids[j] = others[i%len(others)]
							mustType(t, r.make(kids...), cols, params, 0, wantErr)
						}
					}
				}
			}
		}
	}
}

// P15.3: conditions, and what is none.
func TestBool(t *testing.T) {
	types := []int{api.Null, api.Int, api.Bool, api.Text}
	for _, x := range []struct {
		e    api.Expr
		want api.Errno
	}{
		{of(api.Null), api.OK}, {of(api.Bool), api.OK}, {of(api.Int), api.ErrType}, {of(api.Text), api.ErrType}, {slot(0), api.OK}, {slot(1), api.ErrType}, {slot(2), api.OK}, {slot(3), api.ErrType}, {par(1), api.OK}, {par(2), api.ErrType}, {par(3), api.OK}, {par(4), api.ErrType},
		{slot(4), api.ErrCount}, {par(5), api.ErrCount}, {col("a"), api.ErrNone}, {lit(-1), api.ErrArg}, {tower(9, of(api.Bool)), api.ErrDeep}, {tower(8, of(api.Int)), api.OK},
		{bin(api.Add, of(api.Text), lit(1)), api.ErrType}, {bin(api.Add, lit(1), lit(1)), api.ErrType}, {bin(api.Cat, slot(0), slot(0)), api.ErrType}, {un(api.Neg, slot(0)), api.ErrType}, {bin(api.Eq, slot(1), slot(0)), api.OK}, {bin(api.And, slot(0), slot(0)), api.OK},
		{call("coalesce", slot(0)), api.OK}, {call("coalesce", slot(0), slot(2)), api.OK}, {call("coalesce", slot(0), slot(1)), api.ErrType}, {in(lit(1), lit(2)), api.OK}, {call("length", slot(0)), api.ErrType}, {bin(api.Or, par(5), col("a")), api.ErrCount}, {bin(api.Or, col("a"), par(5)), api.ErrNone},
	} {
		if err := typing.Bool(x.e, types, types); err != x.want {
			t.Errorf("Bool of %v is %d, want %d", x.e, err, x.want)
		}
	}
	for _, n := range others() {
		if err := typing.Bool(slot(0), []int{n}, nil); err != api.ErrType {
			t.Errorf("Bool of the type %d is %d", n, err)
		}
		if err := typing.Bool(par(1), nil, []int{n}); err != api.ErrType {
			t.Errorf("Bool of the type %d is %d", n, err)
		}
	}
}
