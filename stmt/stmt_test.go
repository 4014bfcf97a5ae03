package stmt_test

import (
	"strings"
	"testing"

	"registrar/api"
	"registrar/stmt"
)

const (
	most  = 1<<63 - 1
	least = -1 << 63
)

func lit(n int) api.Expr { return api.Expr{Kind: api.Lit, V: api.Value{Kind: api.Int, N: n}} }

func text(s string) api.Expr {
	return api.Expr{Kind: api.Lit, V: api.Value{Kind: api.Text, S: s}}
}

func null() api.Expr { return api.Expr{Kind: api.Lit} }

func col(name string) api.Expr { return api.Expr{Kind: api.Col, Name: name} }

func par(n int) api.Expr { return api.Expr{Kind: api.Par, Op: n} }

func un(op int, kid api.Expr) api.Expr {
	return api.Expr{Kind: api.Un, Op: op, Kids: []api.Expr{kid}}
}

func bin(op int, a, b api.Expr) api.Expr {
	return api.Expr{Kind: api.Bin, Op: op, Kids: []api.Expr{a, b}}
}

func in(kids ...api.Expr) api.Expr { return api.Expr{Kind: api.In, Kids: kids} }

// tower is a column under signs, so high that its height is n.
func tower(n int) api.Expr {
	e := col("a")
	for range n - 1 {
		e = un(api.Not, e)
	}
	return e
}

func row(l ...api.Expr) []api.Expr { return l }

func rows(l ...[]api.Expr) [][]api.Expr { return l }

func names(l ...string) []string { return l }

// said is a statement, its text and its greatest parameter.
type said struct {
	s      api.Stmt
	text   string
	params int
}

// unique, check and foreign are constraints, each with what it may have.
func unique(name string, cols ...string) api.Cons {
	return api.Cons{Name: name, Kind: api.Unique, Cols: cols}
}

func check(name string, e api.Expr) api.Cons {
	return api.Cons{Name: name, Kind: api.Check, Check: e}
}

func foreign(name, table string, cols, refs []string) api.Cons {
	return api.Cons{Name: name, Kind: api.Foreign, Cols: cols, Table: table, Refs: refs}
}

// ofTables are right statements about tables.
func ofTables() []said {
	return []said{
		{api.Stmt{Kind: api.CreateTable, Table: "t", Cols: []api.Column{{Name: "a", Type: api.Int}}}, "CREATE TABLE t (a INT)", 0},
		{api.Stmt{Kind: api.CreateTable, Table: "t_1", Cols: []api.Column{{Name: "a", Type: api.Int, NotNull: true}, {Name: "b", Type: api.Text}, {Name: "a", Type: api.Bool, NotNull: true}}},
			"CREATE TABLE t_1 (a INT NOT NULL, b TEXT, a BOOL NOT NULL)", 0},
		{api.Stmt{Kind: api.CreateTable, Table: "t", Cols: []api.Column{{Name: "a", Type: api.Int}, {Name: "b", Type: api.Bool}},
			Cons: []api.Cons{unique("k", "a"), check("c", bin(api.Gt, col("a"), par(2))), foreign("f", "u", names("a", "b", "c"), names("x", "y", "x")), unique("k", "b", "a")}},
			"CREATE TABLE t (a INT, b BOOL, CONSTRAINT k UNIQUE (a), CONSTRAINT c CHECK (a > $2), CONSTRAINT f FOREIGN KEY (a, b, c) REFERENCES u (x, y, x), CONSTRAINT k UNIQUE (b, a))", 2},
		{api.Stmt{Kind: api.DropTable, Table: "t"}, "DROP TABLE t", 0},
		{api.Stmt{Kind: api.AddColumn, Table: "t", Cols: []api.Column{{Name: "a", Type: api.Text}}}, "ALTER TABLE t ADD COLUMN a TEXT", 0},
		{api.Stmt{Kind: api.AddColumn, Table: "t", Cols: []api.Column{{Name: "a", Type: api.Bool, NotNull: true}}}, "ALTER TABLE t ADD COLUMN a BOOL NOT NULL", 0},
		{api.Stmt{Kind: api.DropColumn, Table: "t", Name: "a"}, "ALTER TABLE t DROP COLUMN a", 0},
		{api.Stmt{Kind: api.Rename, Table: "t", Name: "u"}, "ALTER TABLE t RENAME TO u", 0},
		{api.Stmt{Kind: api.AddCons, Table: "t", Cons: []api.Cons{unique("k", "a", "b", "c")}}, "ALTER TABLE t ADD CONSTRAINT k UNIQUE (a, b, c)", 0},
		{api.Stmt{Kind: api.AddCons, Table: "t", Cons: []api.Cons{check("c", bin(api.Or, col("a"), in(col("b"), lit(1), lit(2))))}}, "ALTER TABLE t ADD CONSTRAINT c CHECK (a OR b IN (1,2))", 0},
		{api.Stmt{Kind: api.AddCons, Table: "t", Cons: []api.Cons{foreign("f", "t", names("a"), names("b"))}}, "ALTER TABLE t ADD CONSTRAINT f FOREIGN KEY (a) REFERENCES t (b)", 0},
		{api.Stmt{Kind: api.DropCons, Table: "t", Name: "k"}, "ALTER TABLE t DROP CONSTRAINT k", 0},
		{api.Stmt{Kind: api.CreateIndex, Table: "t", Name: "i", Names: names("a")}, "CREATE INDEX i ON t (a)", 0},
		{api.Stmt{Kind: api.CreateIndex, Table: "t", Name: "i", Names: names("a", "b", "a")}, "CREATE INDEX i ON t (a, b, a)", 0},
		{api.Stmt{Kind: api.DropIndex, Table: "t", Name: "i"}, "DROP INDEX i ON t", 0},
	}
}

// ofRoles are right statements about roles and grants.
func ofRoles() []said {
	return []said{
		{api.Stmt{Kind: api.CreateRole, Name: "ann"}, "CREATE ROLE ann", 0},
		{api.Stmt{Kind: api.DropRole, Name: "abcdefghijkl"}, "DROP ROLE abcdefghijkl", 0},
		{api.Stmt{Kind: api.GrantRole, Name: "ann", Role: "bob"}, "GRANT ROLE ann TO bob", 0},
		{api.Stmt{Kind: api.RevokeRole, Name: "ann", Role: "bob"}, "REVOKE ROLE ann FROM bob", 0},
		{api.Stmt{Kind: api.GrantPriv, Priv: api.PrivSelect, Table: "t", Role: "ann"}, "GRANT SELECT ON t TO ann", 0},
		{api.Stmt{Kind: api.GrantPriv, Priv: api.PrivDelete, Table: "t", Role: "ann", Option: true}, "GRANT DELETE ON t TO ann WITH GRANT OPTION", 0},
		{api.Stmt{Kind: api.RevokePriv, Priv: api.PrivInsert, Table: "t", Role: "ann"}, "REVOKE INSERT ON t FROM ann", 0},
		{api.Stmt{Kind: api.RevokePriv, Priv: api.PrivUpdate, Table: "t", Role: "ann"}, "REVOKE UPDATE ON t FROM ann", 0},
	}
}

// ofRows are right statements about rows.
func ofRows() []said {
	return []said{
		{api.Stmt{Kind: api.Insert, Table: "t", Rows: rows(row(lit(1), text("a")), row(lit(2), null()))}, "INSERT INTO t VALUES (1, 'a'), (2, NULL)", 0},
		{api.Stmt{Kind: api.Insert, Table: "t", Names: names("b", "a"), Rows: rows(row(par(3), bin(api.Add, lit(1), lit(2))))}, "INSERT INTO t (b, a) VALUES ($3, 1 + 2)", 3},
		{api.Stmt{Kind: api.Insert, Table: "t", Names: names("b"), Rows: rows(row(lit(1), lit(2)), row(lit(3)), row(par(1), par(6), par(2)))}, "INSERT INTO t (b) VALUES (1, 2), (3), ($1, $6, $2)", 6},
		{api.Stmt{Kind: api.Update, Table: "t", Sets: []api.Set{{Name: "a", E: bin(api.Add, col("a"), lit(1))}}}, "UPDATE t SET a = a + 1", 0},
		{api.Stmt{Kind: api.Update, Table: "t", Sets: []api.Set{{Name: "a", E: par(1)}, {Name: "a", E: text("it's")}}, Where: bin(api.Eq, col("b"), par(2))}, "UPDATE t SET a = $1, a = 'it''s' WHERE b = $2", 2},
		{api.Stmt{Kind: api.Update, Table: "t", Sets: []api.Set{{Name: "a", E: par(4)}}, Where: col("b")}, "UPDATE t SET a = $4 WHERE b", 4},
		{api.Stmt{Kind: api.Delete, Table: "t"}, "DELETE FROM t", 0},
		{api.Stmt{Kind: api.Delete, Table: "t", Where: un(api.IsNull, par(5))}, "DELETE FROM t WHERE $5 IS NULL", 5},
		{api.Stmt{Kind: api.Delete, Table: "t", Where: null()}, "DELETE FROM t WHERE NULL", 0},
		{api.Stmt{Kind: api.Select, Table: "t", Limit: -1}, "SELECT * FROM t", 0},
		{api.Stmt{Kind: api.Select, Table: "t"}, "SELECT * FROM t LIMIT 0", 0},
		{api.Stmt{Kind: api.Select, Table: "t", Limit: 9999, Rows: rows(row(col("b"), bin(api.Mul, bin(api.Sub, col("a"), lit(1)), par(2)), text("")))}, "SELECT b, (a - 1) * $2, '' FROM t LIMIT 9999", 2},
		{api.Stmt{Kind: api.Select, Table: "t", Rows: rows(row(col("a"))), Where: bin(api.Eq, col("b"), lit(1)), Order: []api.Order{{E: col("a"), Desc: true}}, Limit: 3}, "SELECT a FROM t WHERE b = 1 ORDER BY a DESC LIMIT 3", 0},
		{api.Stmt{Kind: api.Select, Table: "t", Order: []api.Order{{E: un(api.Not, col("a"))}, {E: par(4), Desc: true}, {E: lit(1)}}, Limit: -1}, "SELECT * FROM t ORDER BY NOT a, $4 DESC, 1", 4},
		{api.Stmt{Kind: api.Select, Table: "t", Where: col("a"), Order: []api.Order{{E: col("b")}}, Limit: -1}, "SELECT * FROM t WHERE a ORDER BY b", 0},
	}
}

// ofPlans are right statements about those that are prepared: among them each right one about rows.
func ofPlans() []said {
	l := []said{
		{api.Stmt{Kind: api.Execute, Name: "p"}, "EXECUTE p", 0},
		{api.Stmt{Kind: api.Execute, Name: "p", Rows: rows(row(lit(1)))}, "EXECUTE p (1)", 0},
		{api.Stmt{Kind: api.Execute, Name: "p", Rows: rows(row(lit(1), un(api.Neg, lit(2)), null(), col("a"), text("x"), par(6)))}, "EXECUTE p (1, -2, NULL, a, 'x', $6)", 6},
		{api.Stmt{Kind: api.Deallocate, Name: "p"}, "DEALLOCATE p", 0},
	}
	for _, kid := range ofRows() {
		l = append(l, said{api.Stmt{Kind: api.Prepare, Name: "p", Kids: []api.Stmt{kid.s}}, "PREPARE p AS " + kid.text, kid.params})
	}
	return l
}

// rights are right statements of all kinds.
func rights() []said {
	l := append(ofTables(), ofRoles()...)
	return append(append(l, ofRows()...), ofPlans()...)
}

// P12.1 to P12.3: right statements of all kinds.
func TestRight(t *testing.T) {
	kinds := map[int]int{}
	for _, x := range rights() {
		kinds[x.s.Kind]++
		if err := stmt.Check(x.s); err != api.OK {
			t.Errorf("Check of %q is %d", x.text, err)
		}
		if s, err := stmt.Print(x.s); s != x.text || err != api.OK {
			t.Errorf("Print is %q, %d; want %q", s, err, x.text)
		}
		if n := stmt.Params(x.s); n != x.params {
			t.Errorf("Params of %q is %d, want %d", x.text, n, x.params)
		}
	}
	if len(kinds) != 22 {
		t.Errorf("there are %d kinds", len(kinds))
	}
}

// mustRefuse holds Check and Print of statements against an error.
func mustRefuse(t *testing.T, want api.Errno, l ...api.Stmt) {
	t.Helper()
	for _, s := range l {
		if err := stmt.Check(s); err != want {
			t.Errorf("Check of %+v is %d, want %d", s, err, want)
		}
		if text, err := stmt.Print(s); text != "" || err != want {
			t.Errorf("Print of %+v is %q, %d; want %d", s, text, err, want)
		}
	}
}

// P12.1: kinds that there are none of, with and without fields.
func TestCheckOfKinds(t *testing.T) {
	for _, kind := range []int{0, -1, 23, 24, 256 + api.DropTable, 1<<32 + api.Delete, most, least} {
		mustRefuse(t, api.ErrArg, api.Stmt{Kind: kind}, api.Stmt{Kind: kind, Table: "t"}, api.Stmt{Kind: kind, Name: "a"}, api.Stmt{Kind: kind, Table: "t", Name: "a"}, api.Stmt{Kind: kind, Name: "a", Role: "b"})
	}
	mustRefuse(t, api.ErrArg, api.Stmt{})
}

// P12.1: what is prepared is one statement about rows, and a right one.
func TestCheckOfKids(t *testing.T) {
	prepare := func(kids ...api.Stmt) api.Stmt { return api.Stmt{Kind: api.Prepare, Name: "p", Kids: kids} }
	for _, x := range rights() {
		if err := stmt.Check(prepare(x.s)); (err == api.OK) != (x.s.Kind >= api.Insert && x.s.Kind <= api.Select) || err != api.OK && err != api.ErrArg {
			t.Errorf("Check of PREPARE of %q is %d", x.text, err)
		}
		mustRefuse(t, api.ErrArg, prepare(x.s, x.s))
	}
	one := api.Stmt{Kind: api.Delete, Table: "t"}
	wrong := []api.Stmt{{Kind: api.Delete}, {Kind: api.Delete, Table: "t", Name: "a"}, {Kind: api.Delete, Table: "t", Kids: []api.Stmt{one}}, {Kind: api.Delete, Table: "t", Where: par(7)}, {Kind: 0, Table: "t"}, {Kind: 99}, {}}
	mustRefuse(t, api.ErrArg, prepare(), prepare([]api.Stmt{}...), prepare(make([]api.Stmt, 1)...), prepare(one, one), prepare(make([]api.Stmt, 1000)...))
	for _, s := range wrong {
		mustRefuse(t, api.ErrArg, prepare(s), prepare(prepare(s)))
	}
	deep := api.Stmt{Kind: api.Delete, Table: "t", Where: tower(9)}
	mustRefuse(t, api.ErrDeep, prepare(deep))
	mustRefuse(t, api.ErrArg, prepare(deep, one), prepare(prepare(deep)), api.Stmt{Kind: api.Prepare, Kids: []api.Stmt{deep}}, api.Stmt{Kind: api.Execute, Name: "p", Kids: []api.Stmt{deep}})
	deep.Name = "a"
	mustRefuse(t, api.ErrArg, prepare(deep))
	deep = api.Stmt{Kind: api.Prepare, Name: "p", Kids: []api.Stmt{{Kind: api.DropTable, Table: "t", Where: tower(9)}}}
	mustRefuse(t, api.ErrArg, deep)
}

// P12.1: what is there of a constraint that its kind has not, or is not there that it has.
func TestCheckOfConstraints(t *testing.T) {
	a, b := names("a"), names("b")
	for _, x := range []struct {
		cons api.Cons
		want api.Errno
	}{
		{unique("k", "a"), api.OK}, {check("c", par(6)), api.OK}, {foreign("f", "t", a, b), api.OK},
		{api.Cons{Name: "k", Kind: api.Unique, Cols: a, Refs: names()}, api.OK}, {api.Cons{Name: "c", Kind: api.Check, Check: lit(1), Cols: names(), Refs: names()}, api.OK},
		{api.Cons{}, api.ErrArg}, {api.Cons{Name: "k"}, api.ErrArg}, {api.Cons{Name: "k", Cols: a}, api.ErrArg}, {api.Cons{Name: "k", Kind: 4, Cols: a}, api.ErrArg}, {api.Cons{Name: "k", Kind: -1}, api.ErrArg},
		{api.Cons{Name: "k", Kind: 1<<32 + api.Unique, Cols: a}, api.ErrArg}, {api.Cons{Name: "k", Kind: 256 + api.Check, Check: lit(1)}, api.ErrArg},
		{unique("", "a"), api.ErrArg}, {check("C", lit(1)), api.ErrArg}, {foreign("f ", "t", a, b), api.ErrArg},
		{unique("k"), api.ErrArg}, {check("c", api.Expr{}), api.ErrArg}, {check("c", api.Expr{Kind: api.Slot}), api.ErrArg}, {foreign("f", "", a, b), api.ErrArg}, {foreign("f", "T", a, b), api.ErrArg},
		{foreign("f", "t", nil, nil), api.ErrArg}, {foreign("f", "t", a, nil), api.ErrArg}, {foreign("f", "t", nil, b), api.ErrArg},
		{foreign("f", "t", names("a", "b"), b), api.ErrArg}, {foreign("f", "t", a, names("a", "b")), api.ErrArg}, {foreign("f", "t", names("a", "b", "c"), names("a", "b")), api.ErrArg},
		{foreign("f", "t", names("a", "b", "c"), names("a", "b", "c")), api.OK}, {foreign("f", "t", names("a", "b", "c", "d"), names("a", "b", "c", "d")), api.ErrArg},
		{unique("k", "a", "b", "c"), api.OK}, {unique("k", "a", "b", "c", "d"), api.ErrArg}, {unique("k", "a", ""), api.ErrArg}, {foreign("f", "t", names("a", "1"), names("a", "b")), api.ErrArg}, {foreign("f", "t", names("a", "b"), names("a", "B")), api.ErrArg},
		{api.Cons{Name: "k", Kind: api.Unique, Cols: a, Check: lit(1)}, api.ErrArg}, {api.Cons{Name: "k", Kind: api.Unique, Cols: a, Check: null()}, api.ErrArg}, {api.Cons{Name: "k", Kind: api.Unique, Cols: a, Check: api.Expr{Op: 1}}, api.ErrArg},
		{api.Cons{Name: "k", Kind: api.Unique, Cols: a, Table: "t"}, api.ErrArg}, {api.Cons{Name: "k", Kind: api.Unique, Cols: a, Refs: b}, api.ErrArg}, {api.Cons{Name: "k", Kind: api.Unique, Cols: a, Table: "t", Refs: b}, api.ErrArg},
		{api.Cons{Name: "c", Kind: api.Check, Check: lit(1), Cols: a}, api.ErrArg}, {api.Cons{Name: "c", Kind: api.Check, Check: lit(1), Table: "t"}, api.ErrArg}, {api.Cons{Name: "c", Kind: api.Check, Check: lit(1), Refs: b}, api.ErrArg},
		{api.Cons{Name: "f", Kind: api.Foreign, Cols: a, Table: "t", Refs: b, Check: lit(1)}, api.ErrArg}, {api.Cons{Name: "f", Kind: api.Foreign, Cols: a, Table: "t", Refs: b, Check: api.Expr{Name: "a"}}, api.ErrArg},
		{check("c", tower(8)), api.OK}, {check("c", tower(9)), api.ErrDeep}, {check("", tower(9)), api.ErrArg}, {api.Cons{Name: "c", Kind: api.Check, Check: tower(9), Table: "t"}, api.ErrArg},
		{api.Cons{Name: "k", Kind: api.Unique, Cols: a, Check: tower(9)}, api.ErrArg}, {api.Cons{Name: "f", Kind: api.Foreign, Cols: a, Table: "t", Refs: b, Check: tower(9)}, api.ErrArg}, {api.Cons{Name: "c", Check: tower(9)}, api.ErrArg},
	} {
		column := []api.Column{{Name: "a", Type: api.Int}}
		for i, s := range []api.Stmt{
			{Kind: api.AddCons, Table: "t", Cons: []api.Cons{x.cons}}, {Kind: api.CreateTable, Table: "t", Cols: column, Cons: []api.Cons{x.cons}},
			{Kind: api.CreateTable, Table: "t", Cols: column, Cons: []api.Cons{unique("k", "a"), check("c", lit(1)), x.cons}}, {Kind: api.CreateTable, Table: "t", Cols: column, Cons: []api.Cons{x.cons, foreign("f", "t", a, b)}},
		} {
			if err := stmt.Check(s); err != x.want {
				t.Errorf("Check of %+v as %d is %d, want %d", x.cons, i, err, x.want)
			}
		}
	}
}

// P12.1: a WHERE that is not there is an expression of Kind 0 without anything.
func TestCheckOfNoWhere(t *testing.T) {
	for _, x := range []struct {
		where api.Expr
		want  api.Errno
	}{
		{api.Expr{}, api.OK}, {api.Expr{Kids: []api.Expr{}}, api.OK}, {null(), api.OK}, {tower(8), api.OK}, {tower(9), api.ErrDeep},
		{api.Expr{Op: 1}, api.ErrArg}, {api.Expr{Name: "a"}, api.ErrArg}, {api.Expr{V: api.Value{N: 1}}, api.ErrArg}, {api.Expr{V: api.Value{S: "a"}}, api.ErrArg}, {api.Expr{V: api.Value{Kind: api.Int}}, api.ErrArg},
		{api.Expr{Kids: row(lit(1))}, api.ErrArg}, {api.Expr{Kids: row(api.Expr{})}, api.ErrArg}, {api.Expr{Kind: -1}, api.ErrArg}, {api.Expr{Kids: row(tower(8))}, api.ErrDeep}, {api.Expr{Kind: 99, Op: -1, Kids: row(tower(8))}, api.ErrDeep},
	} {
		for _, s := range []api.Stmt{
			{Kind: api.Delete, Table: "t", Where: x.where}, {Kind: api.Select, Table: "t", Where: x.where}, {Kind: api.Update, Table: "t", Sets: []api.Set{{Name: "a", E: lit(1)}}, Where: x.where},
			{Kind: api.Prepare, Name: "p", Kids: []api.Stmt{{Kind: api.Delete, Table: "t", Where: x.where}}},
		} {
			if err := stmt.Check(s); err != x.want {
				t.Errorf("Check of kind %d where %+v is %d, want %d", s.Kind, x.where, err, x.want)
			}
		}
	}
}

// P12.1: what is too high is told where nothing else is wrong, whatever is wrong within it.
func TestCheckOfDeep(t *testing.T) {
	spoilt := tower(9)
	spoilt.Name = "a b"
	for _, deep := range []api.Expr{tower(9), tower(10), tower(1000), tower(1 << 16), spoilt, bin(99, par(7), tower(8)), in(par(-1), tower(8), tower(20)), {Kids: row(tower(8))}} {
		set := func(e api.Expr) []api.Set { return []api.Set{{Name: "a", E: e}} }
		mustRefuse(t, api.ErrDeep,
			api.Stmt{Kind: api.Insert, Table: "t", Rows: rows(row(deep))}, api.Stmt{Kind: api.Insert, Table: "t", Rows: rows(row(lit(1)), row(lit(1), deep, lit(2)))}, api.Stmt{Kind: api.Insert, Table: "t", Rows: rows(row(deep), row(deep))},
			api.Stmt{Kind: api.Update, Table: "t", Sets: set(deep)}, api.Stmt{Kind: api.Update, Table: "t", Sets: set(lit(1)), Where: deep}, api.Stmt{Kind: api.Delete, Table: "t", Where: deep},
			api.Stmt{Kind: api.Select, Table: "t", Where: deep}, api.Stmt{Kind: api.Select, Table: "t", Rows: rows(row(deep))}, api.Stmt{Kind: api.Select, Table: "t", Order: []api.Order{{E: lit(1)}, {E: deep}}}, api.Stmt{Kind: api.Execute, Name: "p", Rows: rows(row(deep))})
		mustRefuse(t, api.ErrArg,
			api.Stmt{Kind: api.Insert, Table: "", Rows: rows(row(deep))}, api.Stmt{Kind: api.Insert, Table: "t", Rows: rows(row(deep, api.Expr{}))}, api.Stmt{Kind: api.Insert, Table: "t", Rows: rows(row(par(7)), row(deep))}, api.Stmt{Kind: api.Insert, Table: "t", Rows: rows(row(deep), row())},
			api.Stmt{Kind: api.Update, Table: "t", Sets: set(deep), Where: par(7)}, api.Stmt{Kind: api.Update, Table: "t", Sets: set(par(7)), Where: deep}, api.Stmt{Kind: api.Update, Table: "t", Where: deep}, api.Stmt{Kind: api.Delete, Table: "t", Where: deep, Limit: -1},
			api.Stmt{Kind: api.Select, Table: "t", Where: deep, Limit: -2}, api.Stmt{Kind: api.Select, Table: "t", Rows: rows(row(deep)), Limit: 10000}, api.Stmt{Kind: api.Select, Table: "t", Order: []api.Order{{E: deep}, {}}}, api.Stmt{Kind: api.Select, Table: "t", Rows: rows(row(deep)), Option: true},
			api.Stmt{Kind: api.Execute, Name: "p", Rows: rows(row(deep)), Where: lit(1)}, api.Stmt{Kind: api.Execute, Name: "P", Rows: rows(row(deep))}, api.Stmt{Kind: api.DropTable, Table: "t", Where: deep}, api.Stmt{Kind: api.Insert, Table: "t", Rows: rows(row(lit(1))), Where: deep},
			api.Stmt{Kind: api.Delete, Table: "t", Rows: rows(row(deep))}, api.Stmt{Kind: api.Delete, Table: "t", Order: []api.Order{{E: deep}}}, api.Stmt{Kind: api.Deallocate, Name: "p", Sets: set(deep)}, api.Stmt{Where: deep}, api.Stmt{Kind: 99, Where: deep})
	}
}

// filled are 16 texts of so many bytes in all, at most 32 each.
func filled(bytes int) []api.Expr {
	l := make([]api.Expr, 16)
	for i := range l {
		size := min(bytes, 32)
		l[i] = text(strings.Repeat("x", size))
		bytes -= size
	}
	return l
}

// filledIn is an IN of such texts.
func filledIn(bytes int) api.Expr {
	l := filled(bytes)
	e := in(col("a"))
	for i := range 8 {
		e.Kids = append(e.Kids, bin(api.Cat, l[2*i], l[2*i+1]))
	}
	return e
}

// filledKinds are statements with so many bytes more than they have with none.
func filledKinds(bytes int) []api.Stmt {
	e, l := filledIn(bytes), filled(bytes)
	insert := api.Stmt{Kind: api.Insert, Table: "t"}
	for i := range 8 {
		insert.Rows = append(insert.Rows, l[2*i:2*i+2])
	}
	order := []api.Order{{E: col("a"), Desc: true}}
	return []api.Stmt{
		insert, {Kind: api.Prepare, Name: "p", Kids: []api.Stmt{insert}},
		{Kind: api.Update, Table: "t", Sets: []api.Set{{Name: "a", E: e}}}, {Kind: api.Update, Table: "t", Sets: []api.Set{{Name: "a", E: lit(1)}}, Where: e},
		{Kind: api.Delete, Table: "t", Where: e}, {Kind: api.Select, Table: "t", Where: e, Limit: -1}, {Kind: api.Select, Table: "t", Where: e, Order: order, Limit: -1}, {Kind: api.Select, Table: "t", Where: e, Order: order, Limit: 9999},
		{Kind: api.Select, Table: "t", Rows: rows(row(lit(1), e)), Limit: -1}, {Kind: api.Select, Table: "t", Order: []api.Order{{E: lit(1)}, {E: e, Desc: true}}},
		{Kind: api.Execute, Name: "p", Rows: rows(row(e, lit(1)))}, {Kind: api.AddCons, Table: "t", Cons: []api.Cons{check("c", e)}},
		{Kind: api.CreateTable, Table: "t", Cols: []api.Column{{Name: "a", Type: api.Int}}, Cons: []api.Cons{check("c", e), unique("k", "a")}},
	}
}

// P12.2: a text may have MaxSql bytes, and no more, whatever its last part is, and though an expression alone is too long.
func TestPrintOfLong(t *testing.T) {
	for i, bare := range filledKinds(0) {
		base, err := stmt.Print(bare)
		if err != api.OK || len(base) > 200 {
			t.Fatalf("Print of kind %d is %q, %d", bare.Kind, base, err)
		}
		for bytes := range 512 {
			s := filledKinds(bytes)[i]
			if err := stmt.Check(s); err != api.OK {
				t.Fatalf("Check of kind %d with %d bytes more is %d", s.Kind, bytes, err)
			}
			size, want := len(base)+bytes, api.OK
			if size > 400 {
				size, want = 0, api.ErrLong
			}
			if printed, err := stmt.Print(s); len(printed) != size || err != want {
				t.Fatalf("Print of kind %d with %d bytes more is %q, %d", s.Kind, bytes, printed, err)
			}
		}
	}
}

// P12.2: texts that are far too long, and errors that are told ahead of that.
func TestPrintOfFarTooLong(t *testing.T) {
	e := text("xxxxxxxxxxxxxxxxxxxxxxxxxxxxxxxx")
	for range 5 {
		e = in(e, e, e, e, e, e, e, e, e)
	}
	s := api.Stmt{Kind: api.Delete, Table: "t", Where: e}
	if err := stmt.Check(s); err != api.OK {
		t.Errorf("Check is %d", err)
	}
	if printed, err := stmt.Print(s); printed != "" || err != api.ErrLong {
		t.Errorf("Print is %d bytes, %d", len(printed), err)
	}
	deep := in(e, tower(8))
	mustRefuse(t, api.ErrDeep, api.Stmt{Kind: api.Update, Table: "t", Sets: []api.Set{{Name: "a", E: e}}, Where: deep})
	mustRefuse(t, api.ErrArg, api.Stmt{Kind: api.Update, Table: "t", Sets: []api.Set{{Name: "A", E: e}}, Where: deep})
}

// P12.3: the words of types and privileges, and none of others.
func TestWords(t *testing.T) {
	types := map[int]string{api.Int: "INT", api.Bool: "BOOL", api.Text: "TEXT"}
	privs := map[int]string{api.PrivSelect: "SELECT", api.PrivInsert: "INSERT", api.PrivUpdate: "UPDATE", api.PrivDelete: "DELETE"}
	for _, n := range []int{0, 1, 2, 3, 4, 5, 6, 7, -1, -2, -3, -4, 255, 256, 257, 258, 1 << 32, 1<<32 + 1, 1<<32 + 4, most, least, least + 1} {
		if s := stmt.Type(n); s != types[n] {
			t.Errorf("Type(%d) is %q", n, s)
		}
		if s := stmt.Priv(n); s != privs[n] {
			t.Errorf("Priv(%d) is %q", n, s)
		}
	}
}

// P12.1 to P12.3: lists that are handed in stay as they are, their spare room too.
func TestListsStay(t *testing.T) {
	spare := names("a", "b", "x", "y", "z")
	values := row(lit(1), par(2), lit(7), lit(8))
	s := api.Stmt{Kind: api.Insert, Table: "t", Names: spare[:2], Rows: rows(values[:2], values[:1], row())[:2]}
	if text, err := stmt.Print(s); text != "INSERT INTO t (a, b) VALUES (1, $2), (1)" || err != api.OK {
		t.Errorf("Print is %q, %d", text, err)
	}
	if stmt.Check(s) != api.OK || !stmt.Same(s, s) || stmt.Params(s) != 2 {
		t.Error("the statement is told otherwise")
	}
	if got := strings.Join(spare, ""); got != "abxyz" || values[2].V.N != 7 || values[3].V.N != 8 || len(s.Rows[:3][2]) != 0 {
		t.Errorf("spare room was changed: %s", got)
	}
}
