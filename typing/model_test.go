package typing_test

import (
	"regexp"
	"slices"
	"strconv"
	"testing"

	"registrar/api"
	"registrar/expr"
	"registrar/typing"
)

// dice are numbers that are always the same ones.
type dice struct{ seed uint32 }

// below is the next number, from 0 to n - 1.
func (d *dice) below(n int) int {
	d.seed = d.seed*1664525 + 1013904223
	return int(d.seed>>8) % n
}

// pick is one of a list.
func pick[T any](d *dice, l ...T) T { return l[d.below(len(l))] }

// lines are the chapter's words: a sign, and patterns of its kids' types (N of what is nothing, I, B and T), each with what it makes. The first pattern that matches counts.
var lines = map[string][][2]string{
	"un1": {{"[NI]", "I"}}, "un2": {{"[NB]", "B"}}, "un3": {{".", "B"}}, "un4": {{".", "B"}},
	"abs": {{"[NI]", "I"}}, "length": {{"[NT]", "I"}}, "bin14": {{"[NT][NT]", "T"}},
	"bin1": {{"[NB][NB]", "B"}}, "bin2": {{"[NB][NB]", "B"}},
	"bin3": same, "bin4": same, "bin5": same, "bin6": same, "bin7": same, "bin8": same,
	"bin9": ints, "bin10": ints, "bin11": ints, "bin12": ints, "bin13": ints,
	"in":       {{"N.+", "B"}, {"I[NI]+", "B"}, {"B[NB]+", "B"}, {"T[NT]+", "B"}},
	"coalesce": {{"N+", "N"}, {"[NI]+", "I"}, {"[NB]+", "B"}, {"[NT]+", "T"}},
}

var (
	same = [][2]string{{"N.|.N|II|BB|TT", "B"}}
	ints = [][2]string{{"[NI][NI]", "I"}}
)

// sign is the name under which a part stands in lines.
func sign(e api.Expr) string {
	switch e.Kind {
	case api.Un:
		return "un" + strconv.Itoa(e.Op)
	case api.Bin:
		return "bin" + strconv.Itoa(e.Op)
	case api.In:
		return "in"
	}
	return e.Name
}

const letters = "NIBT"

// model is the letter of a right expression's type, by the chapter's words, where columns are told by what named says. With errors there is none, but their list, in the order in which the parts stand, kids ahead.
func model(e api.Expr, named func(name string) (int, api.Errno), cols, params []int) (string, []api.Errno) {
	at := func(l []int, i int) (string, []api.Errno) {
		switch {
		case i >= len(l):
			return "", []api.Errno{api.ErrCount}
		case l[i] < 0 || l[i] > 3:
			return "", []api.Errno{api.ErrType}
		}
		return letters[l[i] : l[i]+1], nil
	}
	switch e.Kind {
	case api.Lit:
		return letters[e.V.Kind : e.V.Kind+1], nil
	case api.Slot:
		return at(cols, e.Op)
	case api.Par:
		return at(params, e.Op-1)
	case api.Col:
		typ, err := named(e.Name)
		if err != api.OK {
			return "", []api.Errno{err}
		}
		return letters[typ : typ+1], nil
	}
	var types string
	var errs []api.Errno
	for _, kid := range e.Kids {
		typ, l := model(kid, named, cols, params)
		types += typ
		errs = append(errs, l...)
	}
	if len(errs) > 0 {
		return "", errs
	}
	for _, line := range lines[sign(e)] {
		if regexp.MustCompile("^(" + line[0] + ")$").MatchString(types) {
			return line[1], nil
		}
	}
	return "", []api.Errno{api.ErrType}
}

// noName is of Type, for which a column's name is none.
func noName(string) (int, api.Errno) { return 0, api.ErrNone }

// want is what the model says: a type, or the first error.
func want(e api.Expr, named func(name string) (int, api.Errno), cols, params []int) (int, api.Errno) {
	typ, errs := model(e, named, cols, params)
	if len(errs) > 0 {
		return 0, errs[0]
	}
	for i := range letters {
		if typ == letters[i:i+1] {
			return i, api.OK
		}
	}
	return -1, -1
}

// maker makes trees whose leaves are of the types that are known, where it does not go astray.
type maker struct {
	*dice
	cols, params []int
	names        []string
	wild         int
}

// leaf is one of a type, where there is such a place, or rarely of any.
func (m maker) leaf(typ int) api.Expr {
	if m.below(m.wild) == 0 {
		return pick(m.dice, slot(m.below(6)), par(1+m.below(6)), col(pick(m.dice, "a", "b", "z")), of(m.below(4)), of(api.Null))
	}
	var l []api.Expr
	for i, t := range m.cols {
		if t == typ && i < 6 {
			l = append(l, slot(i))
		}
	}
	for i, t := range m.params {
		if t == typ && i < 6 {
			l = append(l, par(i+1))
		}
	}
	return pick(m.dice, append(l, of(typ), of(typ), of(api.Null))...)
}

// tree is an expression that makes a type, as high as asked at most, with a part of another type here and there.
func (m maker) tree(height, typ int) api.Expr {
	if height == 1 || m.below(6) == 0 {
		return m.leaf(typ)
	}
	if m.below(m.wild) == 0 {
		typ = m.below(4)
	}
	kids := func(n, typ int) []api.Expr {
		l := make([]api.Expr, n)
		for i := range l {
			l[i] = m.tree(height-1, typ)
		}
		return l
	}
	some := m.below(4)
	switch pick(m.dice, letters[typ], 'C') {
	case 'I':
		return pick(m.dice, func() api.Expr { return un(api.Neg, kids(1, typ)[0]) }, func() api.Expr { return call("abs", kids(1, typ)...) }, func() api.Expr { return call("length", kids(1, api.Text)...) }, func() api.Expr {
			return api.Expr{Kind: api.Bin, Op: 9 + m.below(5), Kids: kids(2, typ)}
		})()
	case 'T':
		return api.Expr{Kind: api.Bin, Op: api.Cat, Kids: kids(2, typ)}
	case 'B':
		return pick(m.dice, func() api.Expr { return un(api.Not, kids(1, typ)[0]) }, func() api.Expr { return un(3+m.below(2), kids(1, some)[0]) }, func() api.Expr { return in(kids(2+m.below(4), some)...) }, func() api.Expr {
			return api.Expr{Kind: api.Bin, Op: 3 + m.below(6), Kids: kids(2, some)}
		}, func() api.Expr {
			return api.Expr{Kind: api.Bin, Op: 1 + m.below(2), Kids: kids(2, typ)}
		})()
	}
	return call("coalesce", kids(1+m.below(4), typ)...)
}

// makers are many, each with other types and wildness.
func makers(n int) []maker {
	d := &dice{15}
	var l []maker
	for range n {
		m := maker{dice: d, wild: pick(d, 3, 20, 100, 1000)}
		for range d.below(8) {
			m.cols = append(m.cols, d.below(4))
		}
		for range d.below(8) {
			m.params = append(m.params, d.below(4))
		}
		if d.below(5) == 0 && len(m.cols) > 0 {
			m.cols[d.below(len(m.cols))] = pick(d, others()...)
		}
		if d.below(5) == 0 && len(m.params) > 0 {
			m.params[d.below(len(m.params))] = pick(d, others()...)
		}
		l = append(l, m)
	}
	return l
}

// P15.2, P15.3: random trees against the model, and nothing that was handed in is changed.
func TestTypeAgainstModel(t *testing.T) {
	told := map[api.Errno]int{}
	for _, m := range makers(20000) {
		e := m.tree(1+m.below(6), m.below(4))
		was, cols, params := expr.Clone(e), slices.Clone(m.cols), slices.Clone(m.params)
		typ, err := want(e, noName, cols, params)
		told[err]++
		mustType(t, e, m.cols, m.params, typ, err)
		if err == api.OK && typ != api.Bool && typ != api.Null {
			err = api.ErrType
		}
		if got := typing.Bool(e, m.cols, m.params); got != err {
			t.Errorf("Bool(%v, %d, %d) is %d, want %d", e, cols, params, got, err)
		}
		if !expr.Same(e, was) || !slices.Equal(m.cols, cols) || !slices.Equal(m.params, params) {
			t.Fatalf("Type of %v changed it, or the types", was)
		}
	}
	for _, err := range []api.Errno{api.OK, api.ErrNone, api.ErrType, api.ErrCount} {
		if told[err] < 1000 {
			t.Errorf("%d of the trees have the error %d", told[err], err)
		}
	}
}

// P15.4: with a Null in the place of a parameter's type no error comes of what had none, and with Nulls for all neither.
func TestNullsForParams(t *testing.T) {
	had := 0
	for _, m := range makers(20000) {
		e := m.tree(1+m.below(6), m.below(4))
		typ, err := typing.Type(e, m.cols, m.params)
		if err != api.OK || expr.Params(e) == 0 {
			continue
		}
		had++
		lists := [][]int{make([]int, len(m.params)), make([]int, api.MaxParams)}
		for i := range m.params {
			l := slices.Clone(m.params)
			l[i] = api.Null
			lists = append(lists, l)
		}
		for _, l := range lists {
			if got, err := typing.Type(e, m.cols, l); err != api.OK || got != typ && got != api.Null {
				t.Errorf("Type(%v, %d, %d) is %d, %d, but %d with %d", e, m.cols, l, got, err, typ, m.params)
			}
		}
	}
	if had < 3000 {
		t.Errorf("%d of the trees have parameters", had)
	}
}

// rename is an expression with names for some of its slots: those of the first of a table's columns that are so called.
func (m maker) rename(e api.Expr, tab api.Table) api.Expr {
	if e.Kind == api.Slot {
		return col(pick(m.dice, "a", "b", "c", "d", tab.Cols[m.below(len(tab.Cols))].Name))
	}
	e.Kids = slices.Clone(e.Kids)
	for i, kid := range e.Kids {
		e.Kids[i] = m.rename(kid, tab)
	}
	return e
}

// P15.1, P15.4: random expressions over random tables: Resolve against the chapter's words, and a resolved one's type is that by the columns' types.
func TestResolveAgainstModel(t *testing.T) {
	had := map[api.Errno]int{}
	for _, m := range makers(20000) {
		var tab api.Table
		for range 1 + m.below(9) {
			tab.Cols = append(tab.Cols, api.Column{Name: pick(m.dice, "a", "b", "c", "d", "e", "f", "g"), Type: 1 + m.below(3)})
		}
		m.cols = typing.Cols(tab)
		e := m.rename(m.tree(1+m.below(6), m.below(4)), tab)
		place := func(name string) int {
			return slices.IndexFunc(tab.Cols, func(c api.Column) bool { return c.Name == name })
		}
		wantErr := api.OK
		for _, name := range expr.Names(e) {
			if place(name) < 0 || place(name) > 5 {
				wantErr = api.ErrNone
			}
		}
		got, err := typing.Resolve(tab, e)
		had[err]++
		if err != wantErr || err != api.OK && !expr.Same(got, api.Expr{}) {
			t.Fatalf("Resolve(%v, %v) is %v, %d, want %d", tab.Cols, e, got, err, wantErr)
		}
		if err != api.OK {
			continue
		}
		if !expr.Same(got, placed(e, place)) {
			t.Fatalf("Resolve(%v, %v) is %v", tab.Cols, e, got)
		}
		typ, err := want(e, func(name string) (int, api.Errno) { return tab.Cols[place(name)].Type, api.OK }, nil, m.params)
		mustType(t, got, m.cols, m.params, typ, err)
		if len(expr.Names(e)) == 0 {
			mustType(t, e, nil, m.params, typ, err)
		}
	}
	if had[api.OK] < 3000 || had[api.ErrNone] < 3000 {
		t.Errorf("%d expressions resolved, %d not", had[api.OK], had[api.ErrNone])
	}
}

// placed is an expression with slots for its columns' names.
func placed(e api.Expr, place func(name string) int) api.Expr {
	if e.Kind == api.Col {
		return slot(place(e.Name))
	}
	e.Kids = slices.Clone(e.Kids)
	for i, kid := range e.Kids {
		e.Kids[i] = placed(kid, place)
	}
	return e
}
