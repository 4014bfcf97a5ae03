package stmt_test

import (
	"reflect"
	"strconv"
	"testing"

	"registrar/api"
	"registrar/stmt"
)

// whole is a statement with something in each field.
func whole(kids ...api.Stmt) api.Stmt {
	e := api.Expr{Kind: 1, Op: 2, V: api.Value{Kind: 3, N: 4, S: "v"}, Name: "e", Kids: row(api.Expr{Name: "k", Kids: row(lit(1), par(2))}, lit(9))}
	return api.Stmt{
		Kind: 7, Table: "t", Name: "n", Role: "r", Cols: []api.Column{{Name: "c", Type: 1, NotNull: true}, {}},
		Cons:  []api.Cons{{Name: "k", Kind: 2, Cols: names("a", "b"), Check: e, Table: "u", Refs: names("x", "y")}, {}},
		Names: names("l", "m"), Rows: rows(row(e, lit(3)), row(), row(e)), Where: e, Sets: []api.Set{{Name: "s", E: e}, {}}, Order: []api.Order{{E: e, Desc: true}, {}},
		Limit: 5, Priv: 6, Option: true, Kids: kids,
	}
}

// nested is a whole statement with whole ones as kids.
func nested() api.Stmt { return whole(whole(whole()), whole(), api.Stmt{}) }

// each hands every part of what stands in v to change, one by one: numbers, texts, truths and lists, with their paths.
func each(v reflect.Value, path string, change func(v reflect.Value, path string)) {
	switch v.Kind() {
	case reflect.Struct:
		for i := range v.NumField() {
			each(v.Field(i), path+"."+v.Type().Field(i).Name, change)
		}
	case reflect.Slice:
		change(v, path)
		for i := range v.Len() {
			each(v.Index(i), path+"."+strconv.Itoa(i), change)
		}
	default:
		change(v, path)
	}
}

// others are what may stand in the place of v, all unlike it.
func others(v reflect.Value) []reflect.Value {
	var l []reflect.Value
	switch v.Kind() {
	case reflect.Int:
		for _, n := range []int64{1, -1, 1 << 32, -1 << 63, -v.Int()} {
			if n != 0 {
				l = append(l, reflect.ValueOf(int(v.Int()+n)))
			}
		}
	case reflect.String:
		l = append(l, reflect.ValueOf(v.String()+"a"), reflect.ValueOf(v.String()+"\x00"), reflect.ValueOf("Z"+v.String()))
	case reflect.Bool:
		l = append(l, reflect.ValueOf(!v.Bool()))
	case reflect.Slice:
		longer := reflect.MakeSlice(v.Type(), v.Len()+1, v.Len()+1)
		reflect.Copy(longer, v)
		l = append(l, longer)
		if v.Len() > 0 {
			l = append(l, v.Slice(0, v.Len()-1), v.Slice(0, 0), v.Slice(1, v.Len()), reflect.Zero(v.Type()))
		}
	}
	return l
}

// mustBeOne asks whether two are one, or are not, from both sides.
func mustBeOne(t *testing.T, a, b api.Stmt, want bool, why string) {
	t.Helper()
	if stmt.Same(a, b) != want || stmt.Same(b, a) != want {
		t.Errorf("Same is not %t: %s", want, why)
	}
}

// P12.3: each field counts, in kids and expressions too, wherever it stands.
func TestSameOfFields(t *testing.T) {
	a, b := nested(), nested()
	mustBeOne(t, a, b, true, "whole")
	count := 0
	each(reflect.ValueOf(&b).Elem(), "", func(v reflect.Value, path string) {
		kept := reflect.New(v.Type()).Elem()
		kept.Set(v)
		for _, other := range others(kept) {
			// A list that lost its front may be what it was.
			if reflect.DeepEqual(other.Interface(), kept.Interface()) {
				continue
			}
			v.Set(other)
			mustBeOne(t, a, b, false, path)
			count++
		}
		v.Set(kept)
	})
	mustBeOne(t, a, b, true, "whole again")
	if count < 1000 {
		t.Errorf("%d changes were made", count)
	}
}

// P12.3: no list and an empty one are one.
func TestSameOfEmptyLists(t *testing.T) {
	a := whole(api.Stmt{}, whole())
	a.Cons = append(a.Cons, api.Cons{})
	b := whole(api.Stmt{
		Cols: []api.Column{}, Cons: []api.Cons{}, Names: names(), Rows: rows(), Where: api.Expr{Kids: row()}, Sets: []api.Set{}, Order: []api.Order{}, Kids: []api.Stmt{},
	}, whole([]api.Stmt{}...))
	b.Cons = append(b.Cons, api.Cons{Cols: names(), Check: api.Expr{Kids: row()}, Refs: names()})
	a.Rows, b.Rows = append(a.Rows, nil), append(b.Rows, row())
	a.Sets, b.Sets = append(a.Sets, api.Set{}), append(b.Sets, api.Set{E: api.Expr{Kids: row()}})
	a.Order, b.Order = append(a.Order, api.Order{}), append(b.Order, api.Order{E: api.Expr{Kids: row()}})
	mustBeOne(t, a, b, true, "with empty lists")
	mustBeOne(t, api.Stmt{}, b.Kids[0], true, "with empty lists alone")
	mustBeOne(t, api.Stmt{Rows: rows()}, api.Stmt{Rows: rows(row())}, false, "an empty list in one")
	mustBeOne(t, api.Stmt{}, api.Stmt{Kids: make([]api.Stmt, 1)}, false, "a statement without anything")
}

// P12.3: right statements are themselves alone.
func TestSameOfRight(t *testing.T) {
	l, again := rights(), rights()
	for i, a := range l {
		for j, b := range again {
			mustBeOne(t, a.s, b.s, i == j, a.text+" and "+b.text)
		}
	}
}

// P12.3: parameters count wherever an expression stands, whatever the statement's kind is, and all numbers of them.
func TestParams(t *testing.T) {
	for _, n := range []int{1, 2, 6, 7, 1 << 32, most} {
		e := bin(99, col("a"), in(par(n), par(-1), par(0)))
		list := row(lit(1), e, par(-5))
		for i, s := range []api.Stmt{
			{Where: e}, {Rows: rows(nil, list)}, {Rows: rows(list, row(par(0)))}, {Sets: []api.Set{{}, {E: e}, {E: lit(1)}}}, {Order: []api.Order{{}, {E: e}, {}}},
			{Cons: []api.Cons{{}, {Check: e}, {}}}, {Cons: []api.Cons{{Kind: api.Unique, Check: e}}}, {Cons: []api.Cons{{Kind: api.Check, Check: e}}}, {Cons: []api.Cons{{Kind: api.Foreign, Check: e}}}, {Cons: []api.Cons{{Kind: 99, Check: e}}},
		} {
			for _, kind := range []int{0, api.DropTable, api.Select, api.Prepare, 99} {
				s.Kind = kind
				for _, s := range []api.Stmt{s, {Kids: []api.Stmt{{}, s, {}}}, {Kind: kind, Kids: []api.Stmt{{Kind: kind, Kids: []api.Stmt{s}}, {Where: par(-7)}}}} {
					if got := stmt.Params(s); got != n {
						t.Errorf("Params of %d, kind %d, is %d, want %d", i, kind, got, n)
					}
				}
			}
		}
	}
}

// P12.3: the greatest parameter is told, wherever the others stand; 0, if none is above 0.
func TestParamsOfSeveral(t *testing.T) {
	build := func(n [6]int) api.Stmt {
		return api.Stmt{
			Cons: []api.Cons{{Check: par(n[0])}}, Rows: rows(row(par(n[1]))), Where: par(n[2]),
			Sets: []api.Set{{E: par(n[3])}}, Order: []api.Order{{E: par(n[4])}}, Kids: []api.Stmt{{Where: par(n[5])}},
		}
	}
	for i := range 6 {
		for j := range 6 {
			n := [6]int{2, 2, 2, 2, 2, 2}
			n[j] = 3
			n[i] = 5
			if got := stmt.Params(build(n)); got != 5 {
				t.Errorf("Params of %v is %d", n, got)
			}
		}
	}
	for _, n := range []int{0, -1, least} {
		if got := stmt.Params(build([6]int{n, n, n, n, n, n})); got != 0 {
			t.Errorf("Params of %d alone is %d", n, got)
		}
	}
	if got := stmt.Params(api.Stmt{Kind: 3, Limit: 9, Priv: 8}); got != 0 {
		t.Errorf("Params of none is %d", got)
	}
}

// P12.1 to P12.3: what is nested as much as may be.
func TestNested(t *testing.T) {
	tall := func(last int) api.Stmt {
		s := api.Stmt{Kind: api.Prepare, Name: "p", Where: par(last)}
		for range 1<<16 - 2 {
			s = api.Stmt{Kind: api.Prepare, Name: "p", Kids: []api.Stmt{s}}
		}
		return s
	}
	s := tall(3)
	mustRefuse(t, api.ErrArg, s)
	mustBeOne(t, s, tall(3), true, "nested")
	mustBeOne(t, s, tall(4), false, "nested")
	if n := stmt.Params(s); n != 3 {
		t.Errorf("Params is %d", n)
	}
	e := tower(1 << 16)
	s = api.Stmt{Kind: api.Delete, Table: "t", Where: e}
	mustRefuse(t, api.ErrDeep, s)
	mustBeOne(t, s, api.Stmt{Kind: api.Delete, Table: "t", Where: tower(1 << 16)}, true, "high")
	mustBeOne(t, s, api.Stmt{Kind: api.Delete, Table: "t", Where: tower(1<<16 - 1)}, false, "high")
}
