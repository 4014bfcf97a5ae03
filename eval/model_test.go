package eval_test

import (
	"cmp"
	"math/big"
	"regexp"
	"slices"
	"strings"
	"testing"

	"registrar/api"
	"registrar/eval"
	"registrar/expr"
	"registrar/typing"
)

// end is what a part comes to: a value, or an error.
type end struct {
	v   api.Value
	err api.Errno
}

// letter is what a sign sees of an end: N of a Null, F and T of Bools, I of an Int, S of a Text, O of any other value, E of an error.
func (x end) letter() string {
	switch {
	case x.err != api.OK:
		return "E"
	case x.v.Kind == api.Bool && x.v.N == 0:
		return "F"
	case x.v.Kind < api.Null || x.v.Kind > api.Text:
		return "O"
	}
	return "NITS"[x.v.Kind : x.v.Kind+1]
}

// made are the patterns that were asked for.
var made = map[string]*regexp.Regexp{}

// match asks whether the letters of all ends are as a pattern says.
func match(pattern string, ends []end) bool {
	s := ""
	for _, x := range ends {
		s += x.letter()
	}
	if made[pattern] == nil {
		made[pattern] = regexp.MustCompile("^(" + pattern + ")$")
	}
	return made[pattern].MatchString(s)
}

// firstErr is the first of ends that is an error.
func firstErr(ends []end) end {
	return ends[slices.IndexFunc(ends, func(x end) bool { return x.err != api.OK })]
}

// truths are how a sign's kids come to a truth: patterns of all of them, the first that matches counts.
var truths = map[int][][2]string{
	api.And: {{"F.", "F"}, {"E.", "E"}, {"[IOS].", "!"}, {".E", "E"}, {".[IOS]", "!"}, {".F", "F"}, {".*N.*", "N"}, {"TT", "T"}},
	api.Or:  {{"T.", "T"}, {"E.", "E"}, {"[IOS].", "!"}, {".E", "E"}, {".[IOS]", "!"}, {".T", "T"}, {".*N.*", "N"}, {"FF", "F"}},
}

// ending is the end of a word of the patterns.
func ending(word string, ends []end) end {
	switch word {
	case "T":
		return end{v: yes()}
	case "F":
		return end{v: no()}
	case "N":
		return end{}
	case "E":
		return firstErr(ends)
	}
	return end{err: api.ErrType}
}

// boolOf is a Bool.
func boolOf(so bool) end { return ending(map[bool]string{true: "T", false: "F"}[so], nil) }

// whole is a big number as an Int, or ErrRange.
func whole(n *big.Int) end {
	if !n.IsInt64() {
		return end{err: api.ErrRange}
	}
	return end{v: number(int(n.Int64()))}
}

// numbers is what a sign makes of two numbers.
func numbers(op int, a, b int) end {
	x, y, z := big.NewInt(int64(a)), big.NewInt(int64(b)), new(big.Int)
	switch op {
	case api.Add:
		return whole(z.Add(x, y))
	case api.Sub:
		return whole(z.Sub(x, y))
	case api.Mul:
		return whole(z.Mul(x, y))
	}
	if b == 0 {
		return end{err: api.ErrRange}
	}
	quotient := whole(new(big.Int).Quo(x, y))
	if op == api.Div || quotient.err != api.OK {
		return quotient
	}
	return whole(z.Rem(x, y))
}

// stand is how two values of one kind stand.
func stand(a, b api.Value) int {
	return cmp.Or(cmp.Compare(a.N, b.N), strings.Compare(a.S, b.S))
}

// compared is what a comparison makes of two ends, none of them an error.
func compared(op int, a, b end) end {
	both := []end{a, b}
	switch {
	case match(".*O.*", both):
		return end{err: api.ErrType}
	case match(".*N.*", both):
		return end{}
	case a.v.Kind != b.v.Kind:
		return end{err: api.ErrType}
	}
	n := stand(a.v, b.v)
	return boolOf(map[int]bool{api.Eq: n == 0, api.Ne: n != 0, api.Lt: n < 0, api.Le: n <= 0, api.Gt: n > 0, api.Ge: n >= 0}[op])
}

// binModel is what a sign makes of two ends.
func binModel(op int, ends []end) end {
	for _, line := range truths[op] {
		if match(line[0], ends) {
			return ending(line[1], ends)
		}
	}
	switch {
	case match(".*E.*", ends):
		return firstErr(ends)
	case op <= api.Ge:
		return compared(op, ends[0], ends[1])
	case op == api.Cat && match("SS", ends):
		s := ends[0].v.S + ends[1].v.S
		if len(s) > 32 {
			return end{err: api.ErrLong}
		}
		return end{v: text(s)}
	case op == api.Cat && match("[NS][NS]", ends), op != api.Cat && match("N[NI]|IN", ends):
		return end{}
	case op != api.Cat && match("II", ends):
		return numbers(op, ends[0].v.N, ends[1].v.N)
	}
	return end{err: api.ErrType}
}

// unModel is what a sign, or a call, makes of one end.
func unModel(name string, x end) end {
	one := []end{x}
	switch {
	case match("E", one):
		return x
	case name == "is null":
		return boolOf(match("N", one))
	case name == "is not null":
		return boolOf(!match("N", one))
	case match("N", one):
		return end{}
	case name == "not" && match("[TF]", one):
		return boolOf(match("F", one))
	case name == "-" && match("I", one), name == "abs" && match("I", one) && x.v.N < 0:
		return whole(new(big.Int).Neg(big.NewInt(int64(x.v.N))))
	case name == "abs" && match("I", one):
		return end{v: number(x.v.N)}
	case name == "length" && match("S", one):
		return end{v: number(len(x.v.S))}
	}
	return end{err: api.ErrType}
}

// inModel is what an In makes of its ends: the others become the letters T, F, N and E of how each is compared with the first one.
func inModel(ends []end) end {
	switch ends[0].letter() {
	case "E", "N":
		return end{err: ends[0].err}
	}
	var others []end
	for _, x := range ends[1:] {
		if x.err == api.OK {
			x = compared(api.Eq, x, ends[0])
		}
		others = append(others, x)
	}
	for _, line := range [][2]string{{"[FN]*T.*", "T"}, {"[FN]*E.*", "E"}, {"F*", "F"}, {"[FN]*", "N"}} {
		if match(line[0], others) {
			return ending(line[1], others)
		}
	}
	return end{err: -1}
}

// coalesceModel is what a coalesce makes of its ends.
func coalesceModel(ends []end) end {
	i := slices.IndexFunc(ends, func(x end) bool { return x.letter() != "N" })
	if i < 0 {
		return end{}
	}
	return ends[i]
}

// model is what a right expression comes to, by the chapter's words. All parts are asked ahead, and patterns tell which of them count.
func model(e api.Expr, row, params []api.Value) end {
	at := func(l []api.Value, i int) end {
		if i >= len(l) {
			return end{err: api.ErrCount}
		}
		return end{v: l[i]}
	}
	var ends []end
	for _, kid := range e.Kids {
		ends = append(ends, model(kid, row, params))
	}
	switch e.Kind {
	case api.Lit:
		return end{v: e.V}
	case api.Slot:
		return at(row, e.Op)
	case api.Par:
		return at(params, e.Op-1)
	case api.Un:
		return unModel([]string{"-", "not", "is null", "is not null"}[e.Op-1], ends[0])
	case api.Bin:
		return binModel(e.Op, ends)
	case api.In:
		return inModel(ends)
	case api.Call:
		if e.Name == "coalesce" {
			return coalesceModel(ends)
		}
		return unModel(e.Name, ends[0])
	}
	return end{err: api.ErrNone}
}

// mustBeModel holds Eval and Holds against the model.
func mustBeModel(t *testing.T, e api.Expr, row, params []api.Value) end {
	t.Helper()
	want := model(e, row, params)
	mustEval(t, e, row, params, want.v, want.err)
	holds, err := match("T", []end{want}), want.err
	if match("[ISO]", []end{want}) {
		err = api.ErrType
	}
	mustHold(t, e, row, params, holds, err)
	return want
}

// P16.1: each sign over each two values, right or not, as literals, places and parameters.
func TestSignsAgainstModel(t *testing.T) {
	all := append(wrongs(), rights()...)
	for _, a := range all {
		row, params := []api.Value{a}, []api.Value{null(), a}
		for _, kid := range []api.Expr{slot(0), par(2)} {
			for op := api.Neg; op <= api.NotNull; op++ {
				mustBeModel(t, un(op, kid), row, params)
			}
			for _, name := range []string{"abs", "length", "coalesce"} {
				mustBeModel(t, call(name, kid), row, params)
			}
		}
		for _, b := range all {
			row, params := []api.Value{a, number(1)}, []api.Value{b}
			for op := api.Or; op <= api.Cat; op++ {
				mustBeModel(t, bin(op, slot(0), par(1)), row, params)
				if a == b {
					mustBeModel(t, bin(op, slot(0), slot(0)), row, nil)
				}
			}
			mustBeModel(t, in(slot(0), par(1)), row, params)
		}
	}
}

// ends are parts with ends of all letters, and of all errors that a part may have.
func ends() []api.Expr {
	one := lit(number(1))
	return []api.Expr{
		lit(null()), lit(yes()), lit(no()), one, lit(number(2)), lit(text("1")), slot(0),
		col("a"), slot(5), bin(api.Div, one, lit(number(0))), un(api.Not, one), bin(api.Cat, lit(text(strings.Repeat("a", 32))), lit(text("a"))),
	}
}

// allLists hands all lists of so many of those parts to visit.
func allLists(n int, l []api.Expr, visit func(kids []api.Expr)) {
	kids := make([]api.Expr, n)
	var next func(i int)
	next = func(i int) {
		if i == n {
			visit(kids)
			return
		}
		for _, e := range l {
			kids[i] = e
			next(i + 1)
		}
	}
	next(0)
}

// P16.1: all signs and lists over all ends: which errors are told, and which are not asked for.
func TestListsAgainstModel(t *testing.T) {
	row := []api.Value{{Kind: 9}}
	allLists(2, ends(), func(kids []api.Expr) {
		for op := api.Or; op <= api.Cat; op++ {
			mustBeModel(t, api.Expr{Kind: api.Bin, Op: op, Kids: kids}, row, nil)
		}
	})
	for n := 1; n <= 4; n++ {
		allLists(n, ends(), func(kids []api.Expr) {
			mustBeModel(t, api.Expr{Kind: api.Call, Name: "coalesce", Kids: kids}, row, nil)
			if n > 1 {
				mustBeModel(t, in(kids...), row, nil)
			}
		})
	}
	few := []api.Expr{lit(null()), lit(number(1)), lit(number(2)), lit(yes()), col("a")}
	for n := 5; n <= 7; n++ {
		allLists(n, few, func(kids []api.Expr) { mustBeModel(t, in(kids...), row, nil) })
	}
	few = few[:3]
	for n := 8; n <= 9; n++ {
		allLists(n, few, func(kids []api.Expr) { mustBeModel(t, in(kids...), row, nil) })
	}
}

// P16.1, P16.2: random trees over random values against the model, and nothing that was handed in is changed.
func TestEvalAgainstModel(t *testing.T) {
	told := map[api.Errno]int{}
	for _, m := range makers(40000) {
		e := m.tree(1+m.below(6), m.below(4))
		was, row, params := expr.Clone(e), slices.Clone(m.row), slices.Clone(m.params)
		told[mustBeModel(t, e, m.row, m.params).err]++
		if !expr.Same(e, was) || !slices.Equal(m.row, row) || !slices.Equal(m.params, params) {
			t.Fatalf("Eval of %v changed it, or the values", was)
		}
	}
	for _, err := range []api.Errno{api.OK, api.ErrNone, api.ErrLong, api.ErrRange, api.ErrType, api.ErrCount} {
		if told[err] < 100 {
			t.Errorf("%d of the trees have the error %d: %v", told[err], err, told)
		}
	}
}

// P16.4: where types are told, and values are of those types or Nulls, there is no error of types, names and counts, and the value is of the type, or a Null.
func TestEvalOfTyped(t *testing.T) {
	had, types := map[api.Errno]int{}, map[int]int{}
	for _, m := range makers(40000) {
		e := m.tree(1+m.below(6), m.below(4))
		cols, kinds := typing.Kinds(m.row), typing.Kinds(m.params)
		typ, err := typing.Type(e, cols, kinds)
		if err != api.OK {
			continue
		}
		for range 3 {
			v, err := eval.Eval(e, m.row, m.params)
			had[err]++
			if err == api.ErrType || err == api.ErrNone || err == api.ErrCount || v.Kind != api.Null && v.Kind != typ {
				t.Errorf("Eval(%v, %v, %v) is %v, %d, but its type is %d", e, m.row, m.params, v, err, typ)
			}
			types[typ]++
			m.row, m.params = m.others(cols), m.others(kinds)
		}
	}
	for _, err := range []api.Errno{api.OK, api.ErrRange, api.ErrLong} {
		if had[err] < 100 {
			t.Errorf("%d of the typed trees have the error %d: %v", had[err], err, had)
		}
	}
	for typ := api.Null; typ <= api.Text; typ++ {
		if types[typ] < 1000 {
			t.Errorf("%d of the typed trees have the type %d", types[typ], typ)
		}
	}
}

// P16.4: Eval of Fill is Eval with the parameters, whatever there is for parameters then.
func TestEvalOfFilled(t *testing.T) {
	had := map[api.Errno]int{}
	for _, m := range makers(40000) {
		e := m.tree(1+m.below(8), m.below(4))
		if slices.ContainsFunc(m.params, func(v api.Value) bool { return slices.Contains(wrongs(), v) }) {
			continue
		}
		filled, err := eval.Fill(e, m.params)
		had[err]++
		if (err == api.ErrCount) != (expr.Params(e) > len(m.params)) || err != api.OK && !expr.Same(filled, api.Expr{}) {
			t.Errorf("Fill(%v, %v) is %v, %d", e, m.params, filled, err)
		}
		if err != api.OK {
			continue
		}
		if expr.Params(filled) > 0 || expr.Check(filled, true) != api.OK {
			t.Errorf("Fill(%v, %v) is %v", e, m.params, filled)
		}
		want := model(e, m.row, m.params)
		mustEval(t, filled, m.row, nil, want.v, want.err)
		mustEval(t, filled, m.row, wrongs(), want.v, want.err)
		mustEval(t, e, m.row, m.params, want.v, want.err)
	}
	for _, err := range []api.Errno{api.OK, api.ErrCount, api.ErrDeep} {
		if had[err] < 50 {
			t.Errorf("%d of the trees are filled with the error %d: %v", had[err], err, had)
		}
	}
}
