package table_test

import (
	"reflect"
	"regexp"
	"slices"
	"testing"

	"registrar/api"
	"registrar/expr"
	"registrar/table"
	"registrar/value"
)

// dice are numbers that are always the same ones.
type dice struct{ seed uint32 }

// below is the next number, from 0 to n - 1.
func (d *dice) below(n int) int {
	d.seed = d.seed*1664525 + 1013904223
	return int(d.seed>>8) % n
}

// pick is one of a list.
func pick[T any](d *dice, l ...T) T { return l[d.below(len(l))] }

// rarely is true once of so many times.
func (d *dice) rarely(n int) bool { return d.below(n) == 0 }

// name is one of a few, or none.
func (d *dice) name(wild int, l ...string) string {
	if d.rarely(wild) {
		return pick(d, "", "A", "a b", "abcdefghijklm", "_")
	}
	return pick(d, l...)
}

// key is a list of so many columns' names, most of them unlike.
func (d *dice) key(n, wild int, from []string) []string {
	var l []string
	for range n {
		name := pick(d, from...)
		for slices.Contains(l, name) && len(l) < len(from) && !d.rarely(wild) {
			name = pick(d, from...)
		}
		if d.rarely(wild) {
			name = pick(d, "z", "y", "", "A")
		}
		l = append(l, name)
	}
	return l
}

// expr is an expression of a few columns, mostly one that may be.
func (d *dice) expr(height, wild int, from []string) api.Expr {
	if d.rarely(wild) {
		return pick(d, api.Expr{}, par(1), par(0), par(7), api.Expr{Kind: api.Slot}, lit(-1), col("z"), col(""), un(9, lit(1)), tower(7, lit(1)), tower(8, col("a")), tower(9, lit(1)), tower(9, par(1)), tower(9, col("a")))
	}
	if height <= 1 || d.rarely(4) {
		return pick(d, lit(d.below(9)), col(pick(d, from...)), col(pick(d, from...)), api.Expr{Kind: api.Lit, V: text("z")})
	}
	switch d.below(3) {
	case 0:
		return un(1+d.below(4), d.expr(height-1, wild, from))
	case 1:
		return api.Expr{Kind: api.Call, Name: "abs", Kids: []api.Expr{d.expr(height-1, wild, from)}}
	}
	return bin(1+d.below(14), d.expr(height-1, wild, from), d.expr(height-1, wild, from))
}

// cons is a constraint of any kind, with what that has, and rarely something else.
func (d *dice) cons(name string, wild int, from []string) api.Cons {
	n := 1 + d.below(min(3, len(from)))
	if d.rarely(wild) {
		n = d.below(6)
	}
	c := api.Cons{Name: name, Kind: 1 + d.below(3)}
	switch c.Kind {
	case api.Unique:
		c.Cols = d.key(n, wild, from)
	case api.Check:
		c.Check = d.expr(1+d.below(6), wild*4, from)
	default:
		c.Cols, c.Refs, c.Table = d.key(n, wild, from), d.key(n, wild, names("x", "y", "w", "v")), pick(d, "u", "t", "a")
	}
	if d.rarely(wild) {
		d.spoil(&c, wild, from)
	}
	return c
}

// spoil gives a constraint what it should not have, as may be.
func (d *dice) spoil(c *api.Cons, wild int, from []string) {
	switch d.below(6) {
	case 0:
		c.Kind = d.below(6) - 1
	case 1:
		c.Table = pick(d, "", "A", "u")
	case 2:
		c.Cols = d.key(d.below(5), wild, from)
	case 3:
		c.Refs = d.key(d.below(5), wild, from)
	case 4:
		c.Check = d.expr(3, 3, from)
	case 5:
		c.Kind = 1 + c.Kind%3
	}
}

// table is a table, the wilder the more wrong.
func (d *dice) table(wild int) api.Table {
	t := api.Table{Name: d.name(wild*4, "t", "u"), Owner: d.name(wild*4, "root", "ann"), Version: d.below(100)}
	if d.rarely(wild * 4) {
		t.Version = -d.below(100)
	}
	for i := range 1 + d.below(6) + d.below(9)/8 - d.below(9)/8 {
		c := api.Column{Name: d.name(wild*8, "abcdefg"[i:i+1]), Type: 1 + d.below(3), NotNull: d.rarely(2)}
		if d.rarely(wild * 8) {
			c.Type = d.below(7) - 2
		}
		if d.rarely(wild * 8) {
			c.Name = "a"
		}
		t.Cols = append(t.Cols, c)
	}
	from := names("a")
	for _, c := range t.Cols {
		from = append(from, c.Name)
	}
	for i := range d.below(7) + d.below(9)/8 {
		t.Cons = append(t.Cons, d.cons(d.name(wild*8, "klmnopqr"[i:i+1]), wild*4, from[min(1, len(from)-1):]))
	}
	for i := range d.below(4) + d.below(9)/8 {
		t.Idx = append(t.Idx, api.Index{Name: d.name(wild*8, "ijgh"[i:i+1]), Cols: d.key(1+d.below(3), wild*2, from)})
		if d.rarely(wild * 4) {
			t.Idx[i].Name, t.Idx[i].Cols = pick(d, "i", "k", "l"), d.key(d.below(6), wild, from)
		}
	}
	return t
}

// isName is what names are like.
var isName = regexp.MustCompile(`\A[a-z][a-z0-9_]{0,11}\z`).MatchString

// parts are all parts of an expression.
func parts(e api.Expr) []api.Expr {
	l := []api.Expr{e}
	for i := 0; i < len(l); i++ {
		l = append(l, l[i].Kids...)
	}
	return l
}

// modelUses are all columns that a table's constraints and indexes have, each as often as it stands there.
func modelUses(t api.Table) []string {
	var l []string
	for _, c := range t.Cons {
		l = append(l, c.Cols...)
		for _, part := range parts(c.Check) {
			if c.Kind == api.Check && part.Kind == api.Col {
				l = append(l, part.Name)
			}
		}
	}
	for _, i := range t.Idx {
		l = append(l, i.Cols...)
	}
	return l
}

// findings are the errors of a table, found in whatever order, each under its number in the chapter's order.
type findings map[int]struct{}

// add notes a finding, if it is one.
func (f findings) add(rank int, is bool) {
	if is {
		f[rank] = struct{}{}
	}
}

// first is the error that stands first in the chapter's order.
func (f findings) first() api.Errno {
	for rank, err := range []api.Errno{api.ErrName, api.ErrArg, api.ErrLong, api.ErrTwice, api.ErrNone, api.ErrDeep, api.ErrArg} {
		if _, ok := f[rank]; ok {
			return err
		}
	}
	return api.OK
}

// hasTwins asks whether a list has one name twice.
func hasTwins(l []string) bool {
	sorted := slices.Sorted(slices.Values(l))
	return len(slices.Compact(sorted)) < len(l)
}

// outside asks whether a number is not within bounds.
func outside(n, least, most int) bool { return n < least || n > most }

// ofCons finds what is wrong with one constraint, but for its name and its columns.
func (f findings) ofCons(c api.Cons) {
	f.add(0, !isName(c.Name))
	f.add(1, outside(c.Kind, 1, 3))
	f.add(3, hasTwins(c.Cols) || hasTwins(c.Refs))
	hasCheck := !reflect.DeepEqual(c.Check, api.Expr{})
	switch c.Kind {
	case api.Unique:
		f.add(2, outside(len(c.Cols), 1, 3))
		f.add(6, hasCheck || c.Table != "" || len(c.Refs) > 0)
	case api.Check:
		f.add(5, expr.Height(c.Check) > 8)
		f.add(6, expr.Check(c.Check, false) == api.ErrArg || len(c.Cols) > 0 || c.Table != "" || len(c.Refs) > 0)
		f.add(6, slices.ContainsFunc(parts(c.Check), func(e api.Expr) bool { return e.Kind == api.Par }))
	case api.Foreign:
		f.add(2, outside(len(c.Cols), 1, 3) || outside(len(c.Refs), 1, 3))
		f.add(6, hasCheck || !isName(c.Table) || len(c.Refs) != len(c.Cols))
	}
}

// modelCheck is Check by the chapter's words.
func modelCheck(t api.Table) api.Errno {
	f := findings{}
	f.add(0, !isName(t.Name) || !isName(t.Owner))
	f.add(1, t.Version < 0)
	f.add(2, outside(len(t.Cols), 1, 6) || len(t.Cons) > 6 || len(t.Idx) > 3)
	var own, labels []string
	for _, c := range t.Cols {
		f.add(0, !isName(c.Name))
		f.add(1, outside(c.Type, 1, 3))
		own = append(own, c.Name)
	}
	for _, c := range t.Cons {
		f.ofCons(c)
		labels = append(labels, c.Name)
	}
	for _, i := range t.Idx {
		f.add(0, !isName(i.Name))
		f.add(2, outside(len(i.Cols), 1, 3))
		f.add(3, hasTwins(i.Cols))
		labels = append(labels, i.Name)
	}
	f.add(3, hasTwins(own) || hasTwins(labels))
	for _, name := range modelUses(t) {
		f.add(4, !slices.Contains(own, name))
	}
	return f.first()
}

// P14.1: tables right and wrong, held against the model; each error comes often enough, and none too often.
func TestCheckOfRandom(t *testing.T) {
	d := &dice{seed: 14}
	met := map[api.Errno]int{}
	for range 60000 {
		tab := d.table(pick(d, 4, 10, 30, 100))
		want := modelCheck(tab)
		if err := table.Check(tab); err != want {
			t.Fatalf("Check of %+v is %d, want %d", tab, err, want)
		}
		met[want]++
	}
	for _, err := range []api.Errno{api.OK, api.ErrName, api.ErrArg, api.ErrLong, api.ErrTwice, api.ErrNone, api.ErrDeep} {
		if met[err] < 100 {
			t.Errorf("error %d was met %d times", err, met[err])
		}
	}
}

// P14.2: names of columns, constraints and indexes in tables right and wrong.
func TestNamesOfRandom(t *testing.T) {
	d := &dice{seed: 15}
	for range 20000 {
		tab := d.table(pick(d, 2, 5, 20, 100))
		used := modelUses(tab)
		for _, name := range names("a", "b", "c", "d", "e", "f", "g", "i", "j", "k", "l", "z", "y", "x", "u", "t", "", "A") {
			place := -1
			for i, c := range slices.Backward(tab.Cols) {
				if c.Name == name {
					place = i
				}
			}
			if n := table.Col(tab, name); n != place {
				t.Fatalf("Col of %+v, %q is %d, want %d", tab, name, n, place)
			}
			if got := table.Uses(tab, name); got != slices.Contains(used, name) {
				t.Fatalf("Uses of %+v, %q is %t", tab, name, got)
			}
			named := slices.ContainsFunc(tab.Cons, func(c api.Cons) bool { return c.Name == name }) || slices.ContainsFunc(tab.Idx, func(i api.Index) bool { return i.Name == name })
			if got := table.Named(tab, name); got != named {
				t.Fatalf("Named of %+v, %q is %t", tab, name, got)
			}
		}
	}
}

// P14.2, P14.3: places of lists of names, and keys of rows at them.
func TestKeysOfRandom(t *testing.T) {
	d := &dice{seed: 16}
	for range 40000 {
		tab := d.table(10)
		list := d.key(d.below(7), 12, names("a", "b", "c", "d", "e"))
		r := d.row(d.below(8))
		var places []int
		err := api.OK
		for _, name := range list {
			place := table.Col(tab, name)
			if place < 0 {
				err = api.ErrNone
			}
			places = append(places, place)
		}
		var want []api.Value
		for _, place := range places {
			v := api.Value{}
			for i := range r {
				if i == place {
					v = r[i]
				}
			}
			want = append(want, v)
		}
		if key := table.Key(r, places); !slices.Equal(key, want) {
			t.Fatalf("Key of %v, %d is %v", r, places, key)
		}
		if err != api.OK {
			places = nil
		}
		if l, got := table.Places(tab, list); !slices.Equal(l, places) || got != err {
			t.Fatalf("Places of %+v, %q are %d, %d; want %d, %d", tab, list, l, got, places, err)
		}
	}
}

// row is a row of so many values.
func (d *dice) row(n int) []api.Value {
	var r []api.Value
	for range n {
		r = append(r, pick(d, null(), null(), number(d.below(9)), number(-1), truth(0), truth(1), text(""), text("a"), truth(2), api.Value{Kind: 4}, text("\n")))
	}
	return r
}

// P14.3: rows of which most fit, held against value.Fits, and each value's kind against the tables.
func TestFitsOfRandom(t *testing.T) {
	d := &dice{seed: 17}
	met := map[api.Errno]int{}
	for range 60000 {
		tab := d.table(10)
		r := d.row(len(tab.Cols))
		for i := range r {
			if typ := tab.Cols[i].Type; !outside(typ, 1, 3) && d.below(4) > 0 {
				r[i] = values(number(1), truth(1), text("a"))[typ-1]
			}
		}
		if d.rarely(9) {
			r = d.row(d.below(8))
		}
		typeWrong, nullWrong, isNull := false, false, false
		for i, v := range r {
			isNull = isNull || v.Kind == api.Null
			if i < len(tab.Cols) {
				typeWrong = typeWrong || !value.Fits(v, tab.Cols[i].Type)
				nullWrong = nullWrong || v.Kind == api.Null && tab.Cols[i].NotNull
			}
		}
		want := api.OK
		switch {
		case len(r) != len(tab.Cols):
			want = api.ErrCount
		case typeWrong:
			want = api.ErrType
		case nullWrong:
			want = api.ErrNull
		}
		if err := table.Fits(tab, r); err != want {
			t.Fatalf("Fits of %+v, %v is %d, want %d", tab, r, err, want)
		}
		if got := table.Nulls(r); got != isNull {
			t.Fatalf("Nulls of %v is %t", r, got)
		}
		met[want]++
	}
	for _, err := range []api.Errno{api.OK, api.ErrCount, api.ErrType, api.ErrNull} {
		if met[err] < 200 {
			t.Errorf("error %d was met %d times", err, met[err])
		}
	}
}

// P14.4: tables are themselves, their clones are, and two are one just where they are so field by field.
func TestSameOfRandom(t *testing.T) {
	d := &dice{seed: 18}
	last := d.table(10)
	for range 10000 {
		tab := d.table(10)
		c, again := table.Clone(tab), table.Clone(tab)
		if !reflect.DeepEqual(c, tab) || !table.Same(c, tab) || !table.Same(tab, tab) {
			t.Fatalf("the clone of %+v is %+v", tab, c)
		}
		if same := table.Same(tab, last); same != reflect.DeepEqual(tab, last) {
			t.Fatalf("that %+v is %+v is %t", tab, last, same)
		}
		spoilTable(c)
		if !table.Same(again, tab) || !reflect.DeepEqual(again, tab) {
			t.Fatalf("%+v is spoilt with its clone", tab)
		}
		last = tab
	}
}
