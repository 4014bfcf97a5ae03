package stmt_test

import (
	"reflect"
	"strings"
	"testing"

	"registrar/api"
	"registrar/stmt"
)

// fields are those that each kind has, as the chapter's table says, with how many of a list there are.
var fields = map[int]string{
	api.CreateTable: "Table Cols:1-6 Cons:0-6",
	api.DropTable:   "Table",
	api.AddColumn:   "Table Cols:1-1",
	api.DropColumn:  "Table Name",
	api.Rename:      "Table Name",
	api.AddCons:     "Table Cons:1-1",
	api.DropCons:    "Table Name",
	api.CreateIndex: "Table Name Names:1-3",
	api.DropIndex:   "Table Name",
	api.CreateRole:  "Name",
	api.DropRole:    "Name",
	api.GrantRole:   "Name Role",
	api.RevokeRole:  "Name Role",
	api.GrantPriv:   "Table Role Priv Option",
	api.RevokePriv:  "Table Role Priv",
	api.Insert:      "Table Names:0-6 Rows:1-8",
	api.Update:      "Table Sets:1-6 Where",
	api.Delete:      "Table Where",
	api.Select:      "Table Rows:0-1 Where Order:0-3 Limit",
	api.Prepare:     "Name Kids:1-1",
	api.Execute:     "Name Rows:0-1",
	api.Deallocate:  "Name",
}

// widths are how many values a row of Rows has at most.
var widths = map[int]int{api.Insert: 6, api.Select: 6, api.Execute: 6}

// field tells of a kind whether it has a field, and of how many at least and at most a list is.
func field(kind int, name string) (least, most int, has bool) {
	for _, word := range strings.Fields(fields[kind]) {
		field, counts, _ := strings.Cut(word, ":")
		if field != name {
			continue
		}
		if counts == "" {
			return 0, 0, true
		}
		return int(counts[0] - '0'), int(counts[2] - '0'), true
	}
	return 0, 0, false
}

// fieldNames are those of a statement, but for its kind.
func fieldNames() []string {
	var l []string
	for i := range reflect.TypeFor[api.Stmt]().NumField() {
		if name := reflect.TypeFor[api.Stmt]().Field(i).Name; name != "Kind" {
			l = append(l, name)
		}
	}
	return l
}

// filler is something right for each field.
func filler() api.Stmt {
	return api.Stmt{
		Table: "x", Name: "y", Role: "z", Cols: []api.Column{{Name: "a", Type: api.Int}}, Cons: []api.Cons{unique("k", "a")}, Names: names("a"), Rows: rows(row(lit(1))),
		Where: lit(1), Sets: []api.Set{{Name: "a", E: lit(1)}}, Order: []api.Order{{E: lit(1)}}, Limit: 1, Priv: 1, Option: true, Kids: []api.Stmt{{Kind: api.Delete, Table: "t"}},
	}
}

// P12.1: a field that a kind has not must be zero, whatever right thing is there; that of a list must not have one item, though it be zero.
func TestCheckOfOtherFields(t *testing.T) {
	from := reflect.ValueOf(filler())
	for _, x := range rights() {
		for _, name := range fieldNames() {
			if _, _, has := field(x.s.Kind, name); has {
				continue
			}
			s := x.s
			f := reflect.ValueOf(&s).Elem().FieldByName(name)
			f.Set(from.FieldByName(name))
			mustRefuse(t, api.ErrArg, s)
			if f.Kind() == reflect.Slice {
				f.Set(reflect.MakeSlice(f.Type(), 1, 1))
				mustRefuse(t, api.ErrArg, s)
				f.Set(reflect.MakeSlice(f.Type(), 0, 1))
				if text, err := stmt.Print(s); text != x.text || err != api.OK {
					t.Errorf("Print with empty %s is %q, %d; want %q", name, text, err, x.text)
				}
			}
		}
	}
}

// P12.1: the least and the most of numbers and truths that others have not.
func TestCheckOfOtherNumbers(t *testing.T) {
	for _, x := range rights() {
		for _, n := range []int{-1, 1, 2, 9999, 1 << 32, most, least} {
			if x.s.Kind != api.Select {
				s := x.s
				s.Limit = n
				mustRefuse(t, api.ErrArg, s)
			}
			if x.s.Kind != api.GrantPriv && x.s.Kind != api.RevokePriv {
				s := x.s
				s.Priv = n
				mustRefuse(t, api.ErrArg, s)
			}
		}
		if _, _, has := field(x.s.Kind, "Where"); !has {
			for _, e := range []api.Expr{null(), {Op: -1}, {Name: " "}, {V: api.Value{N: 1}}, {V: api.Value{Kind: api.Text}}, {V: api.Value{S: " "}}, {Kids: make([]api.Expr, 1)}, {Kind: -1}, tower(9)} {
				s := x.s
				s.Where = e
				mustRefuse(t, api.ErrArg, s)
			}
		}
	}
}

// resized is a list with so many items, the last one again and again, or the filler's where there is none.
func resized(v, from reflect.Value, n int) reflect.Value {
	l := reflect.MakeSlice(v.Type(), 0, n)
	for i := range n {
		switch {
		case i < v.Len():
			l = reflect.Append(l, v.Index(i))
		case v.Len() > 0:
			l = reflect.Append(l, v.Index(v.Len()-1))
		default:
			l = reflect.Append(l, from.Index(0))
		}
	}
	return l
}

// P12.1: lists have as many as they may have, and no more or fewer; so do rows.
func TestCheckOfCounts(t *testing.T) {
	from := reflect.ValueOf(filler())
	hold := func(s api.Stmt, right bool, what string, n int) {
		want := api.ErrArg
		if right {
			want = api.OK
		}
		if err := stmt.Check(s); err != want {
			t.Errorf("Check of kind %d with %d of %s is %d, want %d", s.Kind, n, what, err, want)
		}
	}
	for _, x := range rights() {
		for _, name := range fieldNames() {
			least, most, has := field(x.s.Kind, name)
			for n := range 20 {
				s := x.s
				f := reflect.ValueOf(&s).Elem().FieldByName(name)
				if !has || f.Kind() != reflect.Slice {
					continue
				}
				f.Set(resized(f, from.FieldByName(name), n))
				hold(s, n >= least && n <= most, name, n)
			}
		}
		for i := range x.s.Rows {
			for n := range 20 {
				s := x.s
				s.Rows = append(rows(), s.Rows...)
				s.Rows[i] = make([]api.Expr, n)
				for j := range s.Rows[i] {
					s.Rows[i][j] = lit(j)
				}
				hold(s, n >= 1 && n <= widths[s.Kind], "a row", n)
			}
		}
	}
}

// P12.1: names must be names, wherever they stand: in the statement, its columns, its constraints, its sets.
func TestCheckOfNames(t *testing.T) {
	good := []string{"a", "z9_", "abcdefghijkl", "root", "select", "int"}
	bad := []string{"", "A", "1", "_", "_a", "a ", " a", "a.b", "aB", "$1", "é", "a\x00", "abcdefghijklm", strings.Repeat("a", 1000), "SELECT", "a,b", "*"}
	count := 0
	for _, x := range rights() {
		s := clone(x.s)
		each(reflect.ValueOf(&s).Elem(), "", func(v reflect.Value, path string) {
			// Values' texts are no names, and calls' names are no others.
			if v.Kind() != reflect.String || v.String() == "" || strings.HasSuffix(path, ".V.S") {
				return
			}
			kept := v.String()
			for _, name := range good {
				v.SetString(name)
				if err := stmt.Check(s); err != api.OK {
					t.Errorf("Check of %q with %q at %s is %d", x.text, name, path, err)
				}
			}
			for _, name := range bad {
				v.SetString(name)
				mustRefuse(t, api.ErrArg, s)
				count++
			}
			v.SetString(kept)
		})
	}
	if count < 1000 {
		t.Errorf("%d names were spoilt", count)
	}
}

// P12.1: names must not be where a kind has none.
func TestCheckOfOtherNames(t *testing.T) {
	for _, x := range rights() {
		for _, name := range []string{"a", " ", "\x00", "A"} {
			for _, f := range []string{"Table", "Name", "Role"} {
				if _, _, has := field(x.s.Kind, f); !has {
					s := x.s
					reflect.ValueOf(&s).Elem().FieldByName(f).SetString(name)
					mustRefuse(t, api.ErrArg, s)
				}
			}
		}
	}
}

// P12.1, P12.2: numbers of types, privileges and limits, and their words.
func TestCheckOfNumbers(t *testing.T) {
	for _, n := range []int{-2, -1, 0, 1, 2, 3, 4, 5, 6, 9, 10, 100, 999, 1000, 9998, 9999, 10000, 256 + 1, 1<<32 - 1, 1 << 32, 1<<32 + 1, most, least} {
		hold := func(right bool, l ...api.Stmt) {
			for _, s := range l {
				want := api.ErrArg
				if right {
					want = api.OK
				}
				if err := stmt.Check(s); err != want {
					t.Errorf("Check of kind %d with %d is %d, want %d", s.Kind, n, err, want)
				}
			}
		}
		hold(n >= 1 && n <= 3, api.Stmt{Kind: api.AddColumn, Table: "t", Cols: []api.Column{{Name: "a", Type: n}}}, api.Stmt{Kind: api.CreateTable, Table: "t", Cols: []api.Column{{Name: "a", Type: 1}, {Name: "b", Type: n}, {Name: "c", Type: 1}}})
		hold(n >= 1 && n <= 4, api.Stmt{Kind: api.GrantPriv, Table: "t", Role: "a", Priv: n}, api.Stmt{Kind: api.RevokePriv, Table: "t", Role: "a", Priv: n})
		hold(n >= -1 && n <= 9999, api.Stmt{Kind: api.Select, Table: "t", Limit: n}, api.Stmt{Kind: api.Prepare, Name: "p", Kids: []api.Stmt{{Kind: api.Select, Table: "t", Limit: n}}})
		hold(n == 0, api.Stmt{Kind: api.Delete, Table: "t", Limit: n}, api.Stmt{Kind: api.Prepare, Name: "p", Limit: n, Kids: []api.Stmt{{Kind: api.Select, Table: "t", Limit: 1}}}, api.Stmt{Kind: api.DropTable, Table: "t", Priv: n})
	}
}
