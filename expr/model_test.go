package expr_test

import (
	"reflect"
	"regexp"
	"slices"
	"strings"
	"testing"

	"registrar/api"
	"registrar/expr"
	"registrar/value"
)

// dice are numbers that are always the same ones.
type dice struct{ seed uint32 }

// below is the next number, from 0 to n - 1.
func (d *dice) below(n int) int {
	d.seed = d.seed*1664525 + 1013904223
	return int(d.seed>>8) % n
}

// leaf is what has no kids, and is right.
func (d *dice) leaf() api.Expr {
	texts := []string{"", "a", "it's", "$1", "b, c", "''", "#2 OR a"}
	switch d.below(6) {
	case 0:
		return lit(d.below(1000))
	case 1:
		return api.Expr{Kind: api.Lit, V: text(texts[d.below(len(texts))])}
	case 2:
		return api.Expr{Kind: api.Lit, V: api.Value{Kind: api.Bool * d.below(2)}}
	case 3:
		return par(1 + d.below(6))
	case 4:
		return slot(d.below(6))
	}
	return col([]string{"a", "b", "c", "dd", "e_1", "or"}[d.below(6)])
}

// tree is a right tree, as high as asked at most.
func (d *dice) tree(height int) api.Expr {
	if height == 1 || d.below(7) == 0 {
		return d.leaf()
	}
	kids := func(n int) []api.Expr {
		l := make([]api.Expr, n)
		for i := range l {
			l[i] = d.tree(height - 1)
		}
		return l
	}
	switch d.below(8) {
	case 0:
		return in(kids(2 + d.below(3))...)
	case 1:
		return call("coalesce", kids(1+d.below(4))...)
	case 2:
		return call([]string{"abs", "length"}[d.below(2)], kids(1)...)
	case 3, 4:
		return un(1+d.below(4), kids(1)[0])
	}
	return api.Expr{Kind: api.Bin, Op: 1 + d.below(14), Kids: kids(2)}
}

// spoilt is a right tree with one part made wrong, and where its levels allow.
func (d *dice) spoilt(e api.Expr) api.Expr {
	if len(e.Kids) > 0 && d.below(3) > 0 {
		i := d.below(len(e.Kids))
		e.Kids[i] = d.spoilt(e.Kids[i])
		return e
	}
	switch d.below(5) {
	case 0:
		e.Kind = []int{0, 9, -1, 99}[d.below(4)]
	case 1:
		e.Op = []int{-1, 15, 77}[d.below(3)]
	case 2:
		e.V = []api.Value{{N: 1}, number(-1), {Kind: 5}, text("\x00")}[d.below(4)]
	case 3:
		e.Name += "A"
	case 4:
		e.Kids = append(e.Kids, some(11)...)
	}
	return e
}

// levels are the parts of a tree by how deep they stand.
func levels(e api.Expr) [][]api.Expr {
	var l [][]api.Expr
	for at := []api.Expr{e}; len(at) > 0; {
		l = append(l, at)
		var next []api.Expr
		for _, part := range at {
			next = append(next, part.Kids...)
		}
		at = next
	}
	return l
}

// model is an expression's text with its rank, by the chapter's words.
func model(e api.Expr) (string, int) {
	kid := func(i, asked int) string {
		s, rank := model(e.Kids[i])
		if rank < asked {
			return "(" + s + ")"
		}
		return s
	}
	list := func(from int) string {
		var l []string
		for i := from; i < len(e.Kids); i++ {
			l = append(l, kid(i, 1))
		}
		return "(" + strings.Join(l, ",") + ")"
	}
	switch e.Kind {
	case api.Lit:
		return value.Show(e.V), 8
	case api.Col:
		return e.Name, 8
	case api.Par:
		return "$" + string(rune('0'+e.Op)), 8
	case api.Slot:
		return "#" + string(rune('0'+e.Op)), 8
	case api.Call:
		return map[string]string{"abs": "ABS", "length": "LENGTH", "coalesce": "COALESCE"}[e.Name] + list(0), 8
	case api.In:
		return kid(0, 5) + " IN " + list(1), 4
	case api.Bin:
		rank := ranksOfSigns()[e.Op]
		sign := strings.Fields("OR AND = <> < <= > >= + - * / % ||")[e.Op-1]
		if rank == 4 {
			return kid(0, 5) + " " + sign + " " + kid(1, 5), 4
		}
		return kid(0, rank) + " " + sign + " " + kid(1, rank+1), rank
	}
	return []string{"-" + kid(0, 7), "NOT " + kid(0, 3), kid(0, 5) + " IS NULL", kid(0, 5) + " IS NOT NULL"}[e.Op-1], []int{7, 3, 4, 4}[e.Op-1]
}

// words are quoted texts, columns and parameters.
var words = regexp.MustCompile(`'[^']*'|[a-z][a-z0-9_]*|\$[1-6]`)

// named are the columns and the greatest parameter that stand in a text.
func named(s string) (names []string, most int) {
	for _, word := range words.FindAllString(s, -1) {
		switch {
		case word[0] == '$':
			most = max(most, int(word[1]-'0'))
		case word[0] != '\'' && !slices.Contains(names, word):
			names = append(names, word)
		}
	}
	return names, most
}

// P10.1 to P10.4: right trees, each call held against the model.
func TestRightTrees(t *testing.T) {
	d := &dice{seed: 7}
	for range 15000 {
		e := d.tree(1 + d.below(10))
		if len(expr.Names(e)) > 6 {
			t.Fatalf("Names are %q", expr.Names(e))
		}
		height := len(levels(e))
		if n := expr.Height(e); n != height {
			t.Fatalf("Height is %d, want %d", n, height)
		}
		want, _ := model(e)
		names, greatest := named(want)
		if l, n := expr.Names(e), expr.Params(e); !slices.Equal(l, names) || n != greatest {
			t.Fatalf("of %q Names are %q, Params is %d", want, l, n)
		}
		err, printErr := api.OK, api.OK
		switch {
		case height > 8:
			err, printErr = api.ErrDeep, api.ErrDeep
		case len(want) > 400:
			printErr = api.ErrLong
		}
		if printErr != api.OK {
			want = ""
		}
		if got := expr.Check(e, true); got != err {
			t.Fatalf("Check is %d, want %d", got, err)
		}
		if s, got := expr.Print(e); s != want || got != printErr {
			t.Fatalf("Print is %q, %d; want %q, %d", s, got, want, printErr)
		}
		if c := expr.Clone(e); !reflect.DeepEqual(c, e) || !expr.Same(c, e) {
			t.Fatalf("Clone of %q is %v", want, c)
		}
	}
}

// P10.1: right trees without slots, and with them.
func TestSlotsInTrees(t *testing.T) {
	d := &dice{seed: 8}
	for range 20000 {
		e := d.tree(1 + d.below(8))
		want := api.OK
		for _, level := range levels(e) {
			if slices.ContainsFunc(level, func(part api.Expr) bool { return part.Kind == api.Slot }) {
				want = api.ErrArg
			}
		}
		if err := expr.Check(e, false); err != want {
			t.Fatalf("Check is %d, want %d", err, want)
		}
	}
}

// P10.1, P10.2: trees with one part made wrong.
func TestSpoiltTrees(t *testing.T) {
	d := &dice{seed: 9}
	for range 40000 {
		e := d.tree(1 + d.below(9))
		kept := expr.Clone(e)
		e = d.spoilt(e)
		want := api.ErrArg
		if len(levels(e)) > 8 {
			want = api.ErrDeep
		}
		if expr.Same(e, kept) || expr.Same(kept, e) {
			t.Fatalf("the spoilt tree %v is the same", e)
		}
		if err := expr.Check(e, true); err != want {
			t.Fatalf("Check of %v is %d, want %d", e, err, want)
		}
		if s, err := expr.Print(e); s != "" || err != want {
			t.Fatalf("Print of %v is %q, %d; want %d", e, s, err, want)
		}
		if n := expr.Height(e); n != len(levels(e)) {
			t.Fatalf("Height of %v is %d", e, n)
		}
	}
}
