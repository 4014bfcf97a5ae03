package table_test

import (
	"slices"
	"strconv"
	"strings"
	"testing"

	"registrar/api"
	"registrar/table"
)

// mustCheck holds Check of a table against an error.
func mustCheck(t *testing.T, tab api.Table, want api.Errno, why string) {
	t.Helper()
	if err := table.Check(tab); err != want {
		t.Errorf("Check is %d, want %d: %s", err, want, why)
	}
}

// P14.1: tables that may be, by hand.
func TestCheckOfRight(t *testing.T) {
	one := []api.Column{{Name: "a", Type: api.Int}}
	for i, tab := range []api.Table{
		whole(), {Name: "t", Owner: "root", Cols: one}, {Name: "t", Owner: "t", Version: most, Cols: one}, {Name: "abcdefghijkl", Owner: "z_9", Version: 1<<30 + 1, Cols: one},
		{Name: "a", Owner: "a", Cols: one, Cons: []api.Cons{unique("b", "a"), check("a", col("a"))}, Idx: []api.Index{{Name: "c", Cols: names("a")}}},
		{Name: "t", Owner: "o", Cols: one, Cons: []api.Cons{unique("k", "a"), unique("l", "a")}, Idx: []api.Index{{Name: "i", Cols: names("a")}, {Name: "j", Cols: names("a")}, {Name: "m", Cols: names("a")}}},
		{Name: "t", Owner: "o", Cols: []api.Column{{Name: "a", Type: api.Text}, {Name: "b", Type: api.Bool, NotNull: true}, {Name: "c", Type: api.Int}}, Cons: []api.Cons{unique("k", "a", "b", "c"), unique("l", "c", "b", "a"), foreign("f", "t", names("b", "a", "c"), names("c", "a", "b"))}},
		{Name: "t", Owner: "o", Cols: one, Cons: []api.Cons{}, Idx: []api.Index{}}, {Name: "t", Owner: "o", Cols: one, Cons: []api.Cons{{Name: "k", Kind: api.Unique, Cols: names("a"), Check: api.Expr{Kids: []api.Expr{}}, Refs: names()}, {Name: "c", Kind: api.Check, Cols: names(), Check: lit(1), Refs: names()}}},
	} {
		mustCheck(t, tab, api.OK, "right table "+strconv.Itoa(i))
	}
}

// spoil makes a whole table wrong in one part.
type spoil struct {
	part string
	do   func(t *api.Table)
}

// fault is an error and what there may be of it, in the order in which errors are told.
type fault struct {
	err api.Errno
	of  []spoil
}

func cols(n int) []api.Column {
	var l []api.Column
	for i := range n {
		l = append(l, api.Column{Name: "n" + strconv.Itoa(i), Type: api.Int})
	}
	return l
}

func namesOfMany(n int) []string {
	var l []string
	for i := range n {
		l = append(l, "n"+strconv.Itoa(i))
	}
	return l
}

// ofNames are names that are none, of all that has one.
func ofNames() []spoil {
	var l []spoil
	for _, name := range names("", "A", "1", "_a", "a b", "abcdefghijklm", "é", "a\x00", "$1") {
		l = append(l,
			spoil{"name", func(t *api.Table) { t.Name = name }}, spoil{"owner", func(t *api.Table) { t.Owner = name }},
			spoil{"col0", func(t *api.Table) { t.Cols[0].Name = name }}, spoil{"col3", func(t *api.Table) { t.Cols[3].Name = name }},
			spoil{"cons0", func(t *api.Table) { t.Cons[0].Name = name }}, spoil{"cons3", func(t *api.Table) { t.Cons[3].Name = name }}, spoil{"cons5", func(t *api.Table) { t.Cons[5].Name = name }},
			spoil{"idx0", func(t *api.Table) { t.Idx[0].Name = name }}, spoil{"idx1", func(t *api.Table) { t.Idx[1].Name = name }})
	}
	return l
}

// ofNumbers are versions, types and kinds that there are none of.
func ofNumbers() []spoil {
	var l []spoil
	for _, n := range []int{-1, -2, -1 << 32, least} {
		l = append(l, spoil{"version", func(t *api.Table) { t.Version = n }})
	}
	for _, n := range []int{0, -1, 4, 5, 256 + 1, 1<<32 + 1, most, least} {
		l = append(l,
			spoil{"col0", func(t *api.Table) { t.Cols[0].Type = n }}, spoil{"col3", func(t *api.Table) { t.Cols[3].Type = n }},
			spoil{"cons0", func(t *api.Table) { t.Cons[0].Kind = n }}, spoil{"cons3", func(t *api.Table) { t.Cons[3].Kind = n }}, spoil{"cons5", func(t *api.Table) { t.Cons[5].Kind = n }})
	}
	return l
}

// ofCounts are lists that are too short or too long.
func ofCounts() []spoil {
	l := []spoil{
		{"cols", func(t *api.Table) { t.Cols = nil }}, {"cols", func(t *api.Table) { t.Cols = t.Cols[:0] }},
		{"cols+", func(t *api.Table) { t.Cols = append(t.Cols, cols(3)...) }}, {"cols+", func(t *api.Table) { t.Cols = append(t.Cols, cols(50)...) }},
		{"cons+", func(t *api.Table) { t.Cons = append(t.Cons, unique("n", "a")) }}, {"idx+", func(t *api.Table) {
			t.Idx = append(t.Idx, api.Index{Name: "n", Cols: names("a")}, api.Index{Name: "m", Cols: names("a")})
		}},
	}
	for _, key := range [][]string{nil, names(), names("a", "b", "c", "d"), names("a", "b", "c", "d", "a"), make([]string, 100)} {
		l = append(l,
			spoil{"cons0", func(t *api.Table) { t.Cons[0].Cols = key }}, spoil{"cons2", func(t *api.Table) { t.Cons[2].Cols = key }}, spoil{"cons5", func(t *api.Table) { t.Cons[5].Cols = key }},
			spoil{"cons2", func(t *api.Table) { t.Cons[2].Refs = key }}, spoil{"cons5", func(t *api.Table) { t.Cons[5].Refs = key }},
			spoil{"idx0", func(t *api.Table) { t.Idx[0].Cols = key }}, spoil{"idx1", func(t *api.Table) { t.Idx[1].Cols = key }})
	}
	return l
}

// ofTwice are names that stand twice where they may stand once.
func ofTwice() []spoil {
	l := []spoil{
		{"col3", func(t *api.Table) { t.Cols[3].Name = "a" }}, {"col0", func(t *api.Table) { t.Cols[0].Name = "b" }}, {"col2", func(t *api.Table) { t.Cols[2].Name = "b" }},
		{"cons0", func(t *api.Table) { t.Cons[0].Name = "e" }}, {"cons1", func(t *api.Table) { t.Cons[1].Name = "f" }}, {"cons5", func(t *api.Table) { t.Cons[5].Name = "k" }},
		{"idx0", func(t *api.Table) { t.Idx[0].Name = "j" }}, {"idx1", func(t *api.Table) { t.Idx[1].Name = "k" }}, {"idx0", func(t *api.Table) { t.Idx[0].Name = "e" }}, {"cons3", func(t *api.Table) { t.Cons[3].Name = "j" }},
		{"cons1", func(t *api.Table) { t.Cons[1].Cols = namesOfMany(200); t.Cons[1].Cols[199] = "n0" }}, {"cons0", func(t *api.Table) { t.Cons[0].Refs = namesOfMany(200); t.Cons[0].Refs[199] = "n77" }},
	}
	for _, key := range [][]string{names("a", "a"), names("a", "b", "a"), names("a", "b", "b"), names("z", "z")} {
		l = append(l,
			spoil{"cons0", func(t *api.Table) { t.Cons[0].Cols = key }}, spoil{"cons1", func(t *api.Table) { t.Cons[1].Cols = key }}, spoil{"cons2", func(t *api.Table) { t.Cons[2].Cols = key }}, spoil{"cons5", func(t *api.Table) { t.Cons[5].Cols = key }},
			spoil{"cons0", func(t *api.Table) { t.Cons[0].Refs = key }}, spoil{"cons1", func(t *api.Table) { t.Cons[1].Refs = key }}, spoil{"cons2", func(t *api.Table) { t.Cons[2].Refs = key }}, spoil{"cons5", func(t *api.Table) { t.Cons[5].Refs = key }},
			spoil{"idx0", func(t *api.Table) { t.Idx[0].Cols = key }}, spoil{"idx1", func(t *api.Table) { t.Idx[1].Cols = key }})
	}
	return l
}

// ofNone are columns that are none of the table's.
func ofNone() []spoil {
	l := []spoil{{"cons1", func(t *api.Table) { t.Cons[1].Cols = namesOfMany(200) }}, {"col2", func(t *api.Table) { t.Cols[2].Name = "z" }}, {"col1", func(t *api.Table) { t.Cols[1].Name = "n" }}}
	for _, name := range names("z", "", "A", "aa", "t", "x", "k") {
		for _, key := range [][]string{names(name), names(name, "a"), names("a", name, "b"), names("a", "b", name)} {
			l = append(l,
				spoil{"cons0", func(t *api.Table) { t.Cons[0].Cols = key }}, spoil{"cons1", func(t *api.Table) { t.Cons[1].Cols = key }}, spoil{"cons2", func(t *api.Table) { t.Cons[2].Cols = key }}, spoil{"cons5", func(t *api.Table) { t.Cons[5].Cols = key }},
				spoil{"idx0", func(t *api.Table) { t.Idx[0].Cols = key }}, spoil{"idx1", func(t *api.Table) { t.Idx[1].Cols = key }})
		}
		for _, e := range []api.Expr{col(name), bin(api.Or, col("a"), un(api.IsNull, col(name))), tower(9, col(name)), bin(99, par(1), col(name))} {
			l = append(l, spoil{"cons1", func(t *api.Table) { t.Cons[1].Check = e }}, spoil{"cons3", func(t *api.Table) { t.Cons[3].Check = e }})
		}
	}
	return l
}

// ofDeep are expressions that are too high.
func ofDeep() []spoil {
	var l []spoil
	for _, e := range []api.Expr{tower(9, col("a")), tower(9, lit(1)), tower(9, par(1)), tower(9, api.Expr{}), bin(api.Or, par(9), tower(8, lit(1))), bin(99, tower(8, lit(1)), lit(1)), tower(100, lit(1))} {
		l = append(l, spoil{"cons1", func(t *api.Table) { t.Cons[1].Check = e }}, spoil{"cons3", func(t *api.Table) { t.Cons[3].Check = e }})
	}
	return l
}

// ofOthers are expressions that may not be, and what a kind has not.
func ofOthers() []spoil {
	var l []spoil
	for _, e := range []api.Expr{{}, {Kind: 9}, par(1), par(6), par(7), par(0), {Kind: api.Slot}, lit(-1), un(5, lit(1)), bin(api.Add, col("a"), par(2)), tower(8, par(1)), tower(8, api.Expr{Kind: api.Slot, Op: 1}), {Kind: api.Col, Name: "a", Op: 1}} {
		l = append(l, spoil{"cons1", func(t *api.Table) { t.Cons[1].Check = e }}, spoil{"cons3", func(t *api.Table) { t.Cons[3].Check = e }})
	}
	for _, e := range []api.Expr{lit(1), col("a"), col("z"), par(1), tower(9, lit(1)), {Op: 1}, {Name: "a"}, {V: api.Value{N: 1}}, {V: text("")}, {Kids: make([]api.Expr, 1)}, {Kind: -1}} {
		for _, i := range []int{0, 2, 4, 5} {
			l = append(l, spoil{"cons" + strconv.Itoa(i), func(t *api.Table) { t.Cons[i].Check = e }})
		}
	}
	for _, other := range names("u", "t", "A", " ") {
		for _, i := range []int{0, 1, 3, 4} {
			l = append(l, spoil{"cons" + strconv.Itoa(i), func(t *api.Table) { t.Cons[i].Table = other }})
		}
	}
	for _, refs := range [][]string{names("x"), names(""), names("a", "z"), names("a", "b", "c", "d"), namesOfMany(200)} {
		for _, i := range []int{0, 1, 3, 4} {
			l = append(l, spoil{"cons" + strconv.Itoa(i), func(t *api.Table) { t.Cons[i].Refs = refs }})
		}
	}
	for _, key := range [][]string{names("a"), names("c", "b"), names("a", "b", "c"), names("d", "c", "b", "a")} {
		l = append(l, spoil{"cons1", func(t *api.Table) { t.Cons[1].Cols = key }}, spoil{"cons3", func(t *api.Table) { t.Cons[3].Cols = key }})
	}
	for _, other := range names("", "A", "1", "u v", "abcdefghijklm") {
		l = append(l, spoil{"cons2", func(t *api.Table) { t.Cons[2].Table = other }}, spoil{"cons5", func(t *api.Table) { t.Cons[5].Table = other }})
	}
	return append(l,
		spoil{"cons2", func(t *api.Table) { t.Cons[2].Refs = names("x") }}, spoil{"cons2", func(t *api.Table) { t.Cons[2].Refs = names("x", "y", "z") }}, spoil{"cons2", func(t *api.Table) { t.Cons[2].Cols = names("a") }},
		spoil{"cons5", func(t *api.Table) { t.Cons[5].Refs = names("x", "y", "z") }}, spoil{"cons5", func(t *api.Table) { t.Cons[5].Cols = names("a", "d") }})
}

// faults are all kinds of them, in the chapter's order.
func faults() []fault {
	return []fault{
		{api.ErrName, ofNames()}, {api.ErrArg, ofNumbers()}, {api.ErrLong, ofCounts()}, {api.ErrTwice, ofTwice()}, {api.ErrNone, ofNone()}, {api.ErrDeep, ofDeep()}, {api.ErrArg, ofOthers()},
	}
}

// P14.1: each fault alone, at several parts of the table.
func TestCheckOfFaults(t *testing.T) {
	for i, f := range faults() {
		for j, s := range f.of {
			tab := whole()
			s.do(&tab)
			mustCheck(t, tab, f.err, "fault "+strconv.Itoa(i)+", "+strconv.Itoa(j)+" of "+s.part)
		}
	}
}

// apart asks whether two parts are two, neither of which lies in the other.
func apart(a, b string) bool {
	return !strings.HasPrefix(a, b) && !strings.HasPrefix(b, a) && !(strings.HasPrefix(a, "col") && strings.HasPrefix(b, "col"))
}

// P14.1: of two faults the one that is named first is told, in whatever parts they stand.
func TestCheckOfTwoFaults(t *testing.T) {
	l := faults()
	count := 0
	for i, first := range l {
		for j, second := range l[i+1:] {
			for _, a := range first.of {
				for _, b := range second.of {
					if !apart(a.part, b.part) {
						continue
					}
					tab := whole()
					a.do(&tab)
					b.do(&tab)
					mustCheck(t, tab, first.err, "fault "+strconv.Itoa(i)+" of "+a.part+" and "+strconv.Itoa(i+1+j)+" of "+b.part)
					count++
				}
			}
		}
	}
	if count < 10000 {
		t.Errorf("%d pairs were held against each other", count)
	}
}

// P14.1: a constraint may have several faults itself, of which the one that is named first is told.
func TestCheckOfOneConstraint(t *testing.T) {
	for i, x := range []struct {
		cons api.Cons
		want api.Errno
	}{
		{api.Cons{Kind: 9, Cols: names("z", "z")}, api.ErrName}, {api.Cons{Name: "n", Kind: 9, Cols: names("z", "z")}, api.ErrArg}, {api.Cons{Name: "n", Kind: 9}, api.ErrArg},
		{api.Cons{Name: "n", Kind: api.Unique, Refs: names("z", "z")}, api.ErrLong}, {api.Cons{Name: "n", Kind: api.Foreign, Cols: names("z", "z")}, api.ErrLong}, {api.Cons{Name: "n", Kind: api.Foreign, Refs: names("z", "z")}, api.ErrLong},
		{api.Cons{Name: "n", Kind: api.Unique, Cols: names("z"), Refs: names("z", "z")}, api.ErrTwice}, {api.Cons{Name: "n", Kind: api.Foreign, Cols: names("z"), Refs: names("z", "z")}, api.ErrTwice}, {api.Cons{Name: "n", Kind: api.Foreign, Cols: names("z", "z"), Refs: names("A")}, api.ErrTwice},
		{api.Cons{Name: "n", Kind: api.Check, Cols: names("z", "z"), Check: tower(9, col("y"))}, api.ErrTwice}, {api.Cons{Name: "n", Kind: api.Check, Refs: names("z", "z"), Check: tower(9, col("y"))}, api.ErrTwice}, {api.Cons{Name: "n", Kind: api.Check, Cols: names("a", "b", "c", "d", "a")}, api.ErrTwice},
		{api.Cons{Name: "n", Kind: api.Check, Cols: names("z"), Check: tower(9, lit(1))}, api.ErrNone}, {api.Cons{Name: "n", Kind: api.Check, Cols: names("a"), Check: tower(9, col("z"))}, api.ErrNone}, {api.Cons{Name: "n", Kind: api.Check, Cols: names("a", "b", "c", "d", "z")}, api.ErrNone},
		{api.Cons{Name: "n", Kind: api.Unique, Cols: names("z"), Table: "u", Check: par(1)}, api.ErrNone}, {api.Cons{Name: "n", Kind: api.Foreign, Cols: names("z"), Refs: names("x", "y")}, api.ErrNone},
		{api.Cons{Name: "n", Kind: api.Check, Cols: names("a"), Table: "u", Refs: names("x"), Check: tower(9, par(1))}, api.ErrDeep}, {api.Cons{Name: "n", Kind: api.Check, Cols: names("a", "b", "c", "d"), Check: lit(1)}, api.ErrArg},
		{api.Cons{Name: "n", Kind: api.Unique, Cols: names("a"), Check: tower(9, col("z"))}, api.ErrArg}, {api.Cons{Name: "n", Kind: api.Foreign, Cols: names("a"), Table: "u", Refs: names("x"), Check: tower(9, col("z"))}, api.ErrArg},
		{api.Cons{Name: "n", Kind: api.Unique, Cols: names("a"), Refs: names("x", "y", "z", "w")}, api.ErrArg}, {api.Cons{Name: "n", Kind: api.Check, Check: lit(1), Refs: names("x", "y", "z", "w")}, api.ErrArg},
	} {
		for _, at := range []int{0, 2, 5} {
			tab := whole()
			tab.Cons[at] = x.cons
			mustCheck(t, tab, x.want, "constraint "+strconv.Itoa(i)+" at "+strconv.Itoa(at))
		}
	}
}

// P14.1: an expression that is too high is told ahead of one that may not be, whichever stands first.
func TestCheckOfTwoExpressions(t *testing.T) {
	high := tower(9, lit(1))
	for _, e := range []api.Expr{{}, par(1), {Kind: api.Slot}, lit(-1)} {
		for _, two := range [][2]api.Expr{{high, e}, {e, high}} {
			tab := whole()
			tab.Cons[1].Check, tab.Cons[3].Check = two[0], two[1]
			mustCheck(t, tab, api.ErrDeep, "two expressions")
		}
	}
	tab := whole()
	tab.Cons[1].Check, tab.Cons[3].Check = tower(8, col("c")), tower(8, lit(1))
	mustCheck(t, tab, api.OK, "expressions as high as may be")
}

// P14.1: as many columns, constraints and indexes as may be, and no more.
func TestCheckOfCounts(t *testing.T) {
	want := func(right bool) api.Errno {
		if right {
			return api.OK
		}
		return api.ErrLong
	}
	for n := range 20 {
		of := " of " + strconv.Itoa(n)
		mustCheck(t, api.Table{Name: "t", Owner: "o", Cols: cols(n)}, want(n >= 1 && n <= 6), "columns"+of)
		tab := api.Table{Name: "t", Owner: "o", Cols: cols(1)}
		for _, name := range namesOfMany(n) {
			tab.Cons = append(tab.Cons, []api.Cons{unique(name, "n0"), check(name, col("n0")), foreign(name, "t", names("n0"), names("x"))}[len(tab.Cons)%3])
		}
		mustCheck(t, tab, want(n <= 6), "constraints"+of)
		tab.Cons = nil
		for _, name := range namesOfMany(n) {
			tab.Idx = append(tab.Idx, api.Index{Name: name, Cols: names("n0")})
		}
		mustCheck(t, tab, want(n <= 3), "indexes"+of)
	}
}

// P14.1: keys have from 1 to MaxKey columns, whether constraints or indexes have them.
func TestCheckOfKeys(t *testing.T) {
	for n := range 7 {
		want := api.ErrLong
		if n >= 1 && n <= 3 {
			want = api.OK
		}
		of := " of " + strconv.Itoa(n)
		tab := api.Table{Name: "t", Owner: "o", Cols: cols(6), Cons: []api.Cons{unique("k", namesOfMany(n)...)}}
		mustCheck(t, tab, want, "a Unique"+of)
		tab.Cons, tab.Idx = nil, []api.Index{{Name: "i", Cols: namesOfMany(n)}}
		mustCheck(t, tab, want, "an index"+of)
		tab.Idx = nil
		for m := range 7 {
			tab.Cons = []api.Cons{foreign("f", "u", namesOfMany(n), namesOfMany(m))}
			switch {
			case n < 1 || n > 3 || m < 1 || m > 3:
				mustCheck(t, tab, api.ErrLong, "a Foreign"+of)
			case n != m:
				mustCheck(t, tab, api.ErrArg, "a Foreign"+of)
			default:
				mustCheck(t, tab, api.OK, "a Foreign"+of)
			}
		}
		tab.Cons = []api.Cons{{Name: "c", Kind: api.Check, Check: lit(1), Cols: namesOfMany(n)}}
		if n > 0 {
			mustCheck(t, tab, api.ErrArg, "a Check"+of)
		}
	}
}

// P14.1: what is not asked of a table alone: Refs are any texts, the other table need not be there, types of expressions may be any.
func TestCheckOfWhatIsNotAsked(t *testing.T) {
	for _, refs := range [][]string{names("", "A"), names("z", "b c"), names("\xff", strings.Repeat("a", 1000))} {
		tab := whole()
		tab.Cons[2].Refs = refs
		mustCheck(t, tab, api.OK, "Refs that are no names")
	}
	for _, e := range []api.Expr{lit(0), {Kind: api.Lit}, bin(api.Add, col("a"), col("c")), un(api.Neg, col("b")), {Kind: api.Call, Name: "length", Kids: []api.Expr{col("a")}}} {
		tab := whole()
		tab.Cons[1].Check = e
		mustCheck(t, tab, api.OK, "types of expressions")
	}
	tab := whole()
	tab.Name, tab.Cons[0].Name, tab.Cons[2].Table, tab.Idx[0].Name = "a", "a", "b", "t"
	mustCheck(t, tab, api.OK, "one name for things of several kinds")
	tab = whole()
	tab.Idx[1].Cols, tab.Cons[4].Cols = slices.Clone(tab.Idx[0].Cols), slices.Clone(tab.Cons[0].Cols)
	mustCheck(t, tab, api.OK, "two keys of the same columns")
}

// P14.1: lists as long and expressions as high as the bound allows.
func TestCheckOfMuch(t *testing.T) {
	most := 1 << 18
	many := namesOfMany(most)
	twice := append(slices.Clone(many[1:]), many[most-1])
	for _, x := range []struct {
		do   func(t *api.Table)
		want api.Errno
	}{
		{func(t *api.Table) { t.Cons[1].Cols = many }, api.ErrNone}, {func(t *api.Table) { t.Cons[1].Cols = twice }, api.ErrTwice},
		{func(t *api.Table) { t.Cons[0].Refs = many }, api.ErrArg}, {func(t *api.Table) { t.Cons[0].Refs = twice }, api.ErrTwice},
		{func(t *api.Table) { t.Cons[0].Cols = twice }, api.ErrLong}, {func(t *api.Table) { t.Cols = cols(most) }, api.ErrLong},
		{func(t *api.Table) { t.Cons = make([]api.Cons, most) }, api.ErrName}, {func(t *api.Table) { t.Idx = make([]api.Index, most) }, api.ErrName},
		{func(t *api.Table) { t.Cons[1].Check = tower(1<<16, col("a")) }, api.ErrDeep}, {func(t *api.Table) { t.Cons[1].Check = tower(1<<16, col("z")) }, api.ErrNone},
		{func(t *api.Table) { t.Cons[0].Check = tower(1<<16, col("z")) }, api.ErrArg}, {func(t *api.Table) { t.Cons[1].Check.Kids = make([]api.Expr, most) }, api.ErrArg},
	} {
		tab := whole()
		x.do(&tab)
		mustCheck(t, tab, x.want, "much")
	}
}
