package table_test

import (
	"reflect"
	"slices"
	"strconv"
	"testing"

	"registrar/api"
	"registrar/expr"
	"registrar/table"
)

// odd is a table with something in each field, whether it may be there or not.
func odd() api.Table {
	e := api.Expr{Kind: 1, Op: 2, V: api.Value{Kind: 3, N: 4, S: "v"}, Name: "e", Kids: []api.Expr{{Name: "k", Kids: []api.Expr{lit(1), par(2)}}, lit(9)}}
	return api.Table{
		Name: "t", Owner: "o", Version: -7, Cols: []api.Column{{Name: "c", Type: 5, NotNull: true}, {}, {Name: "d"}},
		Cons: []api.Cons{{Name: "k", Kind: 2, Cols: names("a", "b"), Check: e, Table: "u", Refs: names("x", "y", "z")}, {}, {Name: "l", Refs: names("w"), Check: e}},
		Idx:  []api.Index{{Name: "i", Cols: names("a", "b")}, {}, {Name: "j", Cols: names("c")}},
	}
}

// each hands every part of what stands in v to change, one by one: numbers, texts, truths and lists, with their paths.
func each(v reflect.Value, path string, change func(v reflect.Value, path string)) {
	switch v.Kind() {
	case reflect.Struct:
		for i := range v.NumField() {
			each(v.Field(i), path+"."+v.Type().Field(i).Name, change)
		}
	case reflect.Slice:
		change(v, path)
		for i := range v.Len() {
			each(v.Index(i), path+"."+strconv.Itoa(i), change)
		}
	default:
		change(v, path)
	}
}

// others are what may stand in the place of v, all unlike it.
func others(v reflect.Value) []reflect.Value {
	var l []reflect.Value
	switch v.Kind() {
	case reflect.Int:
		for _, n := range []int64{1, -1, 1 << 32, -1 << 63} {
			l = append(l, reflect.ValueOf(int(v.Int()+n)))
		}
	case reflect.String:
		l = append(l, reflect.ValueOf(v.String()+"a"), reflect.ValueOf(v.String()+"\x00"), reflect.ValueOf("Z"+v.String()))
	case reflect.Bool:
		l = append(l, reflect.ValueOf(!v.Bool()))
	case reflect.Slice:
		longer := reflect.MakeSlice(v.Type(), v.Len()+1, v.Len()+1)
		reflect.Copy(longer, v)
		l = append(l, longer)
		if v.Len() > 0 {
			l = append(l, v.Slice(0, v.Len()-1), v.Slice(0, 0), v.Slice(1, v.Len()), reflect.Zero(v.Type()))
		}
	}
	return l
}

// mustBeOne asks whether two are one, or are not, from both sides.
func mustBeOne(t *testing.T, a, b api.Table, want bool, why string) {
	t.Helper()
	if table.Same(a, b) != want || table.Same(b, a) != want {
		t.Errorf("Same is not %t: %s", want, why)
	}
}

// P14.4: each field counts, wherever it stands.
func TestSameOfFields(t *testing.T) {
	a, b := odd(), odd()
	mustBeOne(t, a, b, true, "as they are made")
	count := 0
	each(reflect.ValueOf(&b).Elem(), "", func(v reflect.Value, path string) {
		kept := reflect.New(v.Type()).Elem()
		kept.Set(v)
		for _, other := range others(kept) {
			v.Set(other)
			mustBeOne(t, a, b, false, path)
			count++
		}
		v.Set(kept)
	})
	mustBeOne(t, a, b, true, "as they were made")
	if count < 300 {
		t.Errorf("%d changes were made", count)
	}
}

// P14.4: what stands in another order is another table.
func TestSameOfOrder(t *testing.T) {
	for i, turn := range []func(t *api.Table){
		func(t *api.Table) { slices.Reverse(t.Cols) }, func(t *api.Table) { slices.Reverse(t.Cons) }, func(t *api.Table) { slices.Reverse(t.Idx) },
		func(t *api.Table) { slices.Reverse(t.Cons[2].Cols) }, func(t *api.Table) { slices.Reverse(t.Cons[2].Refs) }, func(t *api.Table) { slices.Reverse(t.Idx[0].Cols) }, func(t *api.Table) { slices.Reverse(t.Cons[1].Check.Kids) },
		func(t *api.Table) { t.Name, t.Owner = t.Owner, t.Name }, func(t *api.Table) { t.Cons[2].Cols, t.Cons[2].Refs = t.Cons[2].Refs, t.Cons[2].Cols }, func(t *api.Table) { t.Cons[0].Name, t.Idx[0].Name = t.Idx[0].Name, t.Cons[0].Name },
	} {
		a, b := whole(), whole()
		turn(&b)
		mustBeOne(t, a, b, false, "turned "+strconv.Itoa(i))
		turn(&a)
		mustBeOne(t, a, b, true, "both turned "+strconv.Itoa(i))
	}
}

// P14.4, R3: no list and an empty one are one.
func TestSameOfEmptyLists(t *testing.T) {
	none := api.Table{Cons: make([]api.Cons, 1), Idx: make([]api.Index, 1)}
	empty := api.Table{Cols: []api.Column{}, Cons: []api.Cons{{Cols: names(), Check: api.Expr{Kids: []api.Expr{}}, Refs: names()}}, Idx: []api.Index{{Cols: names()}}}
	mustBeOne(t, none, empty, true, "lists within")
	mustBeOne(t, table.Clone(none), table.Clone(empty), true, "clones")
	mustBeOne(t, api.Table{}, api.Table{Cols: []api.Column{}, Cons: []api.Cons{}, Idx: []api.Index{}}, true, "nothing")
	mustBeOne(t, api.Table{}, api.Table{Cols: make([]api.Column, 1)}, false, "a column without anything")
	mustBeOne(t, api.Table{}, api.Table{Cons: make([]api.Cons, 1)}, false, "a constraint without anything")
	mustBeOne(t, api.Table{}, api.Table{Idx: make([]api.Index, 1)}, false, "an index without anything")
}

// spoilList writes to a whole list, its spare room included.
func spoilList[T any](l []T, item T) {
	for i := range l[:cap(l)] {
		l[:cap(l)][i] = item
	}
}

// spoilExpr writes to all that an expression is made of.
func spoilExpr(e api.Expr) {
	for _, kid := range e.Kids {
		spoilExpr(kid)
	}
	spoilList(e.Kids, api.Expr{Kind: 55, Name: "spoilt"})
}

// spoilTable writes to all that a table is made of.
func spoilTable(t api.Table) {
	for _, cons := range t.Cons {
		spoilList(cons.Cols, "spoilt")
		spoilList(cons.Refs, "spoilt")
		spoilExpr(cons.Check)
	}
	for _, index := range t.Idx {
		spoilList(index.Cols, "spoilt")
	}
	spoilList(t.Cols, api.Column{Name: "spoilt"})
	spoilList(t.Cons, api.Cons{Name: "spoilt"})
	spoilList(t.Idx, api.Index{Name: "spoilt"})
}

// P14.4: a clone is the same, and what becomes of it or of the table the other one does not tell.
func TestClone(t *testing.T) {
	for i, make := range []func() api.Table{whole, odd, func() api.Table { return api.Table{} }, func() api.Table { return columns("a", "b") }, func() api.Table { return roomy(whole()) }, func() api.Table { return roomy(odd()) }} {
		tab, kept := make(), make()
		one, two := table.Clone(tab), table.Clone(tab)
		if !reflect.DeepEqual(one, tab) || !reflect.DeepEqual(two, kept) {
			t.Errorf("the clone of table %d is %v", i, one)
		}
		spoilTable(one)
		if !reflect.DeepEqual(tab, kept) || !reflect.DeepEqual(two, kept) {
			t.Errorf("table %d is spoilt with its clone", i)
		}
		spoilTable(tab)
		if !reflect.DeepEqual(two, kept) {
			t.Errorf("the clone of table %d is spoilt with it", i)
		}
	}
}

// P14.4: what a table has twice its clone has two of.
func TestCloneOfShared(t *testing.T) {
	key := names("a", "b")
	e := bin(api.Or, col("a"), col("b"))
	tab := api.Table{Cons: []api.Cons{{Cols: key, Refs: key, Check: e}, {Cols: key, Refs: key, Check: e}}, Idx: []api.Index{{Cols: key}, {Cols: key}}}
	c := table.Clone(tab)
	lists := [][]string{c.Cons[0].Cols, c.Cons[0].Refs, c.Cons[1].Cols, c.Cons[1].Refs, c.Idx[0].Cols, c.Idx[1].Cols}
	for i, l := range lists {
		l[0] = strconv.Itoa(i)
	}
	for i, l := range lists {
		if l[0] != strconv.Itoa(i) || l[1] != "b" {
			t.Errorf("list %d of a clone is %q", i, l)
		}
	}
	c.Cons[0].Check.Kids[0] = lit(1)
	if !expr.Same(c.Cons[1].Check, e) || !slices.Equal(key, names("a", "b")) {
		t.Error("lists of a clone are shared")
	}
}

// P14.4: expressions as high as the bound allows.
func TestCloneOfHigh(t *testing.T) {
	high := func(last string) api.Table {
		return api.Table{Cons: []api.Cons{check("c", tower(1<<16-3, col(last)))}}
	}
	a := high("a")
	c := table.Clone(a)
	mustBeOne(t, a, c, true, "a clone")
	mustBeOne(t, a, high("b"), false, "another column")
	spoilTable(a)
	mustBeOne(t, c, high("a"), true, "a clone of what is spoilt")
}

// roomyList is the same list with spare room, in which something stands.
func roomyList[T any](l []T, spare T) []T {
	if l == nil {
		return nil
	}
	room := append(make([]T, 0, len(l)+3), l...)
	for range 3 {
		room = append(room, spare)
	}
	return room[:len(l)]
}

// roomy is the same table, whose lists have spare room.
func roomy(t api.Table) api.Table {
	t = table.Clone(t)
	for i, cons := range t.Cons {
		t.Cons[i].Cols, t.Cons[i].Refs = roomyList(cons.Cols, "spare"), roomyList(cons.Refs, "spare")
		t.Cons[i].Check.Kids = roomyList(cons.Check.Kids, col("spare"))
	}
	for i, index := range t.Idx {
		t.Idx[i].Cols = roomyList(index.Cols, "spare")
	}
	t.Cols = roomyList(t.Cols, api.Column{Name: "spare"})
	t.Cons = roomyList(t.Cons, api.Cons{Name: "spare"})
	t.Idx = roomyList(t.Idx, api.Index{Name: "spare"})
	return t
}

// unroomed are all lists of a table up to the end of their room.
func unroomed(t api.Table) []any {
	all := []any{t.Cols[:cap(t.Cols)], t.Cons[:cap(t.Cons)], t.Idx[:cap(t.Idx)]}
	for _, cons := range t.Cons {
		all = append(all, cons.Cols[:cap(cons.Cols)], cons.Refs[:cap(cons.Refs)], cons.Check.Kids[:cap(cons.Check.Kids)])
	}
	for _, index := range t.Idx {
		all = append(all, index.Cols[:cap(index.Cols)])
	}
	return all
}

// R3: no call changes what is handed in, spare room included; the same is answered each time, and what is answered is nobody else's.
func TestNothingIsChanged(t *testing.T) {
	for _, make := range []func() api.Table{whole, odd} {
		tab, kept := roomy(make()), roomy(make())
		list := roomyList(names("a", "b"), "spare")
		r := roomyList(values(number(1), text("x"), null(), number(2)), text("spare"))
		places := roomyList([]int{1, 0}, 77)
		for range 2 {
			table.Check(tab)
			table.Col(tab, "b")
			found, _ := table.Places(tab, list)
			spoilList(found, 99)
			key := table.Key(r, places)
			if !slices.Equal(key, values(text("x"), number(1))) {
				t.Errorf("Key is %v", key)
			}
			spoilList(key, text("spoilt"))
			table.Nulls(r)
			table.Fits(tab, r)
			table.Uses(tab, "z")
			table.Named(tab, "z")
			table.Clone(tab)
			table.Same(tab, kept)
		}
		if !reflect.DeepEqual(unroomed(tab), unroomed(kept)) {
			t.Error("a table is changed")
		}
		if !slices.Equal(list[:5], names("a", "b", "spare", "spare", "spare")) || !slices.Equal(places[:5], []int{1, 0, 77, 77, 77}) ||
			!slices.Equal(r[:7], values(number(1), text("x"), null(), number(2), text("spare"), text("spare"), text("spare"))) {
			t.Error("a list is changed")
		}
	}
}
