package parse_test

import (
	"reflect"
	"strings"
	"testing"

	"registrar/api"
	"registrar/exparse"
	"registrar/lex"
	"registrar/parse"
	"registrar/stmt"
)

// ex is a text's expression.
func ex(s string) api.Expr {
	e, at, err := exparse.Parse(s)
	if err != api.OK {
		panic(s[at:] + " can't stand in " + s)
	}
	return e
}

// row is a list of texts' expressions.
func row(l ...string) []api.Expr {
	var r []api.Expr
	for _, s := range l {
		r = append(r, ex(s))
	}
	return r
}

func rows(l ...[]api.Expr) [][]api.Expr { return l }

func names(l ...string) []string { return l }

// times is a text so many times, with another one between each two.
func times(s, between string, n int) string {
	return strings.Repeat(s+between, n-1) + s
}

// deep is an expression's text that is one too high, and high one that is just not too high.
var (
	deep = times("NOT ", "", 8) + "a"
	high = times("NOT ", "", 7) + "a"
)

// said is a text, and its statement.
type said struct {
	text string
	s    api.Stmt
}

// ofTables are about tables, by hand.
func ofTables() []said {
	a := api.Column{Name: "a", Type: api.Int}
	return []said{
		{"CREATE TABLE t (a INT)", api.Stmt{Kind: api.CreateTable, Table: "t", Cols: []api.Column{a}}},
		{"CREATE TABLE t_1 (a INT NOT NULL, b TEXT, a BOOL NOT NULL)", api.Stmt{Kind: api.CreateTable, Table: "t_1", Cols: []api.Column{{Name: "a", Type: api.Int, NotNull: true}, {Name: "b", Type: api.Text}, {Name: "a", Type: api.Bool, NotNull: true}}}},
		{"CREATE TABLE t (a INT, CONSTRAINT k UNIQUE (a))", api.Stmt{Kind: api.CreateTable, Table: "t", Cols: []api.Column{a}, Cons: []api.Cons{{Name: "k", Kind: api.Unique, Cols: names("a")}}}},
		{"CREATE TABLE t (a INT, a INT, CONSTRAINT k UNIQUE (a, b, a), CONSTRAINT c CHECK ((a) > $2), CONSTRAINT f FOREIGN KEY (a, b, c) REFERENCES u (x, y, x), CONSTRAINT k CHECK (NULL))",
			api.Stmt{Kind: api.CreateTable, Table: "t", Cols: []api.Column{a, a}, Cons: []api.Cons{
				{Name: "k", Kind: api.Unique, Cols: names("a", "b", "a")}, {Name: "c", Kind: api.Check, Check: ex("a > $2")},
				{Name: "f", Kind: api.Foreign, Cols: names("a", "b", "c"), Table: "u", Refs: names("x", "y", "x")}, {Name: "k", Kind: api.Check, Check: ex("NULL")},
			}}},
		{"DROP TABLE t", api.Stmt{Kind: api.DropTable, Table: "t"}},
		{"ALTER TABLE t ADD COLUMN a INT", api.Stmt{Kind: api.AddColumn, Table: "t", Cols: []api.Column{a}}},
		{"ALTER TABLE t ADD COLUMN b TEXT NOT NULL", api.Stmt{Kind: api.AddColumn, Table: "t", Cols: []api.Column{{Name: "b", Type: api.Text, NotNull: true}}}},
		{"ALTER TABLE t DROP COLUMN a", api.Stmt{Kind: api.DropColumn, Table: "t", Name: "a"}},
		{"ALTER TABLE t RENAME TO u", api.Stmt{Kind: api.Rename, Table: "t", Name: "u"}},
		{"ALTER TABLE t ADD CONSTRAINT k UNIQUE (a, b)", api.Stmt{Kind: api.AddCons, Table: "t", Cons: []api.Cons{{Name: "k", Kind: api.Unique, Cols: names("a", "b")}}}},
		{"ALTER TABLE t ADD CONSTRAINT c CHECK (a OR b IN (1, 2))", api.Stmt{Kind: api.AddCons, Table: "t", Cons: []api.Cons{{Name: "c", Kind: api.Check, Check: ex("a OR b IN (1, 2)")}}}},
		{"ALTER TABLE t ADD CONSTRAINT f FOREIGN KEY (a) REFERENCES t (b)", api.Stmt{Kind: api.AddCons, Table: "t", Cons: []api.Cons{{Name: "f", Kind: api.Foreign, Cols: names("a"), Table: "t", Refs: names("b")}}}},
		{"ALTER TABLE t DROP CONSTRAINT k", api.Stmt{Kind: api.DropCons, Table: "t", Name: "k"}},
		{"CREATE INDEX i ON t (a)", api.Stmt{Kind: api.CreateIndex, Table: "t", Name: "i", Names: names("a")}},
		{"CREATE INDEX i ON t (a, b, a)", api.Stmt{Kind: api.CreateIndex, Table: "t", Name: "i", Names: names("a", "b", "a")}},
		{"DROP INDEX i ON t", api.Stmt{Kind: api.DropIndex, Table: "t", Name: "i"}},
	}
}

// ofRoles are about roles and grants.
func ofRoles() []said {
	return []said{
		{"CREATE ROLE ann", api.Stmt{Kind: api.CreateRole, Name: "ann"}},
		{"DROP ROLE abcdefghijkl", api.Stmt{Kind: api.DropRole, Name: "abcdefghijkl"}},
		{"GRANT ROLE ann TO bob", api.Stmt{Kind: api.GrantRole, Name: "ann", Role: "bob"}},
		{"REVOKE ROLE ann FROM bob", api.Stmt{Kind: api.RevokeRole, Name: "ann", Role: "bob"}},
		{"GRANT SELECT ON t TO ann", api.Stmt{Kind: api.GrantPriv, Priv: api.PrivSelect, Table: "t", Role: "ann"}},
		{"GRANT INSERT ON t TO ann", api.Stmt{Kind: api.GrantPriv, Priv: api.PrivInsert, Table: "t", Role: "ann"}},
		{"GRANT UPDATE ON t TO ann WITH GRANT OPTION", api.Stmt{Kind: api.GrantPriv, Priv: api.PrivUpdate, Table: "t", Role: "ann", Option: true}},
		{"REVOKE DELETE ON t FROM ann", api.Stmt{Kind: api.RevokePriv, Priv: api.PrivDelete, Table: "t", Role: "ann"}},
	}
}

// ofRows are about rows.
func ofRows() []said {
	return []said{
		{"INSERT INTO t VALUES (1, 'a'), (2, NULL)", api.Stmt{Kind: api.Insert, Table: "t", Rows: rows(row("1", "'a'"), row("2", "NULL"))}},
		{"INSERT INTO t (b, a) VALUES ($3, -1 + (2))", api.Stmt{Kind: api.Insert, Table: "t", Names: names("b", "a"), Rows: rows(row("$3", "-1 + 2"))}},
		{"INSERT INTO t (b) VALUES (1, 2), (3), ($1, $6, $2)", api.Stmt{Kind: api.Insert, Table: "t", Names: names("b"), Rows: rows(row("1", "2"), row("3"), row("$1", "$6", "$2"))}},
		{"UPDATE t SET a = a + 1", api.Stmt{Kind: api.Update, Table: "t", Sets: []api.Set{{Name: "a", E: ex("a + 1")}}}},
		{"UPDATE t SET a = $1, a = b = c WHERE b = $2", api.Stmt{Kind: api.Update, Table: "t", Sets: []api.Set{{Name: "a", E: ex("$1")}, {Name: "a", E: ex("b = c")}}, Where: ex("b = $2")}},
		{"DELETE FROM t", api.Stmt{Kind: api.Delete, Table: "t"}},
		{"DELETE FROM t WHERE ((a) IS NOT NULL)", api.Stmt{Kind: api.Delete, Table: "t", Where: ex("a IS NOT NULL")}},
		{"DELETE FROM t WHERE NULL", api.Stmt{Kind: api.Delete, Table: "t", Where: ex("NULL")}},
		{"SELECT * FROM t", api.Stmt{Kind: api.Select, Table: "t", Limit: -1}},
		{"SELECT * FROM t LIMIT 0", api.Stmt{Kind: api.Select, Table: "t"}},
		{"SELECT b, (a - 1) * $2, '' FROM t LIMIT 9999", api.Stmt{Kind: api.Select, Table: "t", Rows: rows(row("b", "(a - 1) * $2", "''")), Limit: 9999}},
		{"SELECT a FROM t WHERE b = 1 ORDER BY a DESC LIMIT 3", api.Stmt{Kind: api.Select, Table: "t", Rows: rows(row("a")), Where: ex("b = 1"), Order: []api.Order{{E: ex("a"), Desc: true}}, Limit: 3}},
		{"SELECT * FROM t ORDER BY NOT a, $4 DESC, 1", api.Stmt{Kind: api.Select, Table: "t", Order: []api.Order{{E: ex("NOT a")}, {E: ex("$4"), Desc: true}, {E: ex("1")}}, Limit: -1}},
		{"SELECT * FROM t WHERE a ORDER BY b", api.Stmt{Kind: api.Select, Table: "t", Where: ex("a"), Order: []api.Order{{E: ex("b")}}, Limit: -1}},
		{"SELECT * FROM t WHERE COALESCE(a, ABS(b)) IN (1, 2) LIMIT 10", api.Stmt{Kind: api.Select, Table: "t", Where: ex("COALESCE(a, ABS(b)) IN (1, 2)"), Limit: 10}},
	}
}

// ofPlans are about what is prepared: among them each one about rows.
func ofPlans() []said {
	l := []said{
		{"EXECUTE p", api.Stmt{Kind: api.Execute, Name: "p"}},
		{"EXECUTE p (1)", api.Stmt{Kind: api.Execute, Name: "p", Rows: rows(row("1"))}},
		{"EXECUTE p (1, -2, NULL, (a), 'x', $6)", api.Stmt{Kind: api.Execute, Name: "p", Rows: rows(row("1", "-2", "NULL", "a", "'x'", "$6"))}},
		{"DEALLOCATE p", api.Stmt{Kind: api.Deallocate, Name: "p"}},
	}
	for _, kid := range ofRows() {
		l = append(l, said{"PREPARE p AS " + kid.text, api.Stmt{Kind: api.Prepare, Name: "p", Kids: []api.Stmt{kid.s}}})
	}
	return l
}

// full are those whose lists are as long as may be, and whose expressions are as high.
func full() []said {
	a := api.Column{Name: "a", Type: api.Int}
	k := api.Cons{Name: "k", Kind: api.Unique, Cols: names("a", "b", "c")}
	six := row("1", "2", "3", "4", "5", "6")
	eight := rows(six, six, six, six, six, six, row("7"), six)
	in := ex("a IN (1,2,3,4,5,6,7,8)")
	return []said{
		{"CREATE TABLE t (" + times("a INT", ", ", 6) + ")", api.Stmt{Kind: api.CreateTable, Table: "t", Cols: []api.Column{a, a, a, a, a, a}}},
		{"CREATE TABLE t (a INT, " + times("CONSTRAINT k UNIQUE (a, b, c)", ", ", 6) + ")", api.Stmt{Kind: api.CreateTable, Table: "t", Cols: []api.Column{a}, Cons: []api.Cons{k, k, k, k, k, k}}},
		{"CREATE TABLE t (" + times("a INT", ", ", 6) + ", " + times("CONSTRAINT k UNIQUE (a, b, c)", ", ", 6) + ")", api.Stmt{Kind: api.CreateTable, Table: "t", Cols: []api.Column{a, a, a, a, a, a}, Cons: []api.Cons{k, k, k, k, k, k}}},
		{"INSERT INTO t (a, b, c, d, e, f) VALUES " + times("(1,2,3,4,5,6)", ",", 6) + ",(7),(1,2,3,4,5,6)", api.Stmt{Kind: api.Insert, Table: "t", Names: names("a", "b", "c", "d", "e", "f"), Rows: eight}},
		{"UPDATE t SET " + times("a = 1", ", ", 6), api.Stmt{Kind: api.Update, Table: "t", Sets: []api.Set{{Name: "a", E: ex("1")}, {Name: "a", E: ex("1")}, {Name: "a", E: ex("1")}, {Name: "a", E: ex("1")}, {Name: "a", E: ex("1")}, {Name: "a", E: ex("1")}}}},
		{"SELECT 1, 2, 3, 4, 5, 6 FROM t WHERE a IN (1,2,3,4,5,6,7,8) ORDER BY a, b, c DESC LIMIT 9999", api.Stmt{Kind: api.Select, Table: "t", Rows: rows(six), Where: in, Order: []api.Order{{E: ex("a")}, {E: ex("b")}, {E: ex("c"), Desc: true}}, Limit: 9999}},
		{"EXECUTE p (1, 2, 3, 4, 5, 6)", api.Stmt{Kind: api.Execute, Name: "p", Rows: rows(six)}},
		{"ALTER TABLE t ADD CONSTRAINT c CHECK (" + high + ")", api.Stmt{Kind: api.AddCons, Table: "t", Cons: []api.Cons{{Name: "c", Kind: api.Check, Check: ex(high)}}}},
		{"UPDATE t SET a = " + high + " WHERE " + high, api.Stmt{Kind: api.Update, Table: "t", Sets: []api.Set{{Name: "a", E: ex(high)}}, Where: ex(high)}},
		{"SELECT " + high + " FROM t ORDER BY " + high + " DESC, " + high, api.Stmt{Kind: api.Select, Table: "t", Rows: rows(row(high)), Order: []api.Order{{E: ex(high), Desc: true}, {E: ex(high)}}, Limit: -1}},
	}
}

// rights are of all kinds.
func rights() []said {
	l := append(ofTables(), ofRoles()...)
	l = append(l, ofRows()...)
	return append(append(l, ofPlans()...), full()...)
}

// mustRead holds Parse against a statement.
func mustRead(t *testing.T, text string, want api.Stmt) {
	t.Helper()
	s, at, err := parse.Parse(text)
	if err != api.OK || at != 0 || !stmt.Same(s, want) {
		t.Errorf("Parse of %q is %+v, %d, %d, want %+v", text, s, at, err, want)
	}
	if err := stmt.Check(s); err != api.OK {
		t.Errorf("Check of what %q says is %d", text, err)
	}
}

// mustFail holds Parse against an error and its place, which a ^ tells in the text.
func mustFail(t *testing.T, marked string, want api.Errno) {
	t.Helper()
	ahead, behind, _ := strings.Cut(marked, "^")
	s, at, err := parse.Parse(ahead + behind)
	if err != want || at != len(ahead) || !reflect.ValueOf(s).IsZero() {
		t.Errorf("Parse of %q is %+v, %d, %d, want %d, %d", ahead+behind, s, at, err, len(ahead), want)
	}
}

// P13.1, P13.2: each line of the chapter's table; and by whatever blanks and line's ends the words are held apart.
func TestRights(t *testing.T) {
	kinds := map[int]bool{}
	for _, x := range rights() {
		mustRead(t, x.text, x.s)
		kinds[x.s.Kind] = true
		l, _, _ := lex.Tokens(x.text)
		spread, dense := " \n", ""
		for i, token := range l {
			spread += token.Text + "\n "
			if i > 0 && l[i-1].Kind != lex.Sign && token.Kind != lex.Sign {
				dense += "\n"
			}
			dense += token.Text
		}
		mustRead(t, dense, x.s)
		if len(spread) <= api.MaxSql {
			mustRead(t, spread, x.s)
		}
	}
	if len(kinds) != api.Deallocate {
		t.Errorf("there are %d kinds", len(kinds))
	}
}

// P13.2: what was read and printed is read as it was, where it is not too long.
func TestPrintedIsRead(t *testing.T) {
	for _, x := range rights() {
		if text, err := stmt.Print(x.s); err == api.OK {
			mustRead(t, text, x.s)
		} else if err != api.ErrLong || len(text) > 0 {
			t.Errorf("Print of what %q says is %q, %d", x.text, text, err)
		}
	}
}

// P13.1: the first token that can't stand there, at each place of the grammar.
func TestErrSay(t *testing.T) {
	for _, marked := range []string{
		"^", " \n^", "^t", "^(", "^1", "^'SELECT'", "^$1", "^TABLE t", "^ROLE a", "^SELECTS", "^FROM t", "^COMMIT", "^NOT a", "^*", "^, a",
		"CREATE^", "CREATE ^t", "CREATE ^TABLES t", "CREATE ^SELECT", "CREATE ^COLUMN a INT", "CREATE TABLE^", "CREATE TABLE ^TABLE", "CREATE TABLE ^(a INT)", "CREATE TABLE t^", "CREATE TABLE t ^a INT", "CREATE TABLE t (^", "CREATE TABLE t (^)", "CREATE TABLE t (^INT)", "CREATE TABLE t (^1 INT)", "CREATE TABLE t (a^", "CREATE TABLE t (a^)", "CREATE TABLE t (a^, b INT)", "CREATE TABLE t (a ^b)", "CREATE TABLE t (a ^INTEGER)", "CREATE TABLE t (a ^NULL)", "CREATE TABLE t (a ^NOT NULL)",
		"CREATE TABLE t (a INT^", "CREATE TABLE t (a INT ^b INT)", "CREATE TABLE t (a INT ^NULL)", "CREATE TABLE t (a INT ^CONSTRAINT k UNIQUE (a))", "CREATE TABLE t (a INT NOT^", "CREATE TABLE t (a INT NOT^, b INT)", "CREATE TABLE t (a INT NOT ^NOT NULL)", "CREATE TABLE t (a INT NOT NULL ^NOT NULL)", "CREATE TABLE t (a INT NOT ^b)", "CREATE TABLE t (a INT) ^)", "CREATE TABLE t (a INT) ^CREATE TABLE u (a INT)", "CREATE TABLE t (a INT) ^, b",
		"DROP^", "DROP ^t", "DROP ^COLUMN a", "DROP ^CONSTRAINT a", "DROP TABLE^", "DROP TABLE ^1", "DROP TABLE t^, u", "DROP TABLE t ^u",
		"ALTER^", "ALTER ^t", "ALTER ^ROLE t", "ALTER ^INDEX i ADD COLUMN a INT", "ALTER ^ADD TABLE t ADD", "ALTER TABLE^", "ALTER TABLE ^ADD COLUMN a INT", "ALTER TABLE ^DROP DROP COLUMN a", "ALTER TABLE ^1 RENAME TO a", "ALTER TABLE t^", "ALTER TABLE t ^u", "ALTER TABLE t ^SET a", "ALTER TABLE t ^COLUMN a INT", "ALTER TABLE t ^CONSTRAINT k UNIQUE (a)", "ALTER TABLE t ^, CONSTRAINT k UNIQUE (a)",
		"ALTER TABLE t ADD^", "ALTER TABLE t ADD ^a INT", "ALTER TABLE t ADD ^UNIQUE (a)", "ALTER TABLE t ADD COLUMN^", "ALTER TABLE t ADD COLUMN ^INT", "ALTER TABLE t ADD COLUMN a^", "ALTER TABLE t ADD COLUMN a ^b", "ALTER TABLE t ADD COLUMN a INT^, b INT", "ALTER TABLE t ADD COLUMN ^(a INT)", "ALTER TABLE t ADD COLUMN a INT NOT^", "ALTER TABLE t ADD COLUMN a INT ^DEFAULT 1",
		"ALTER TABLE t DROP^", "ALTER TABLE t DROP ^a", "ALTER TABLE t DROP ^INDEX a", "ALTER TABLE t DROP COLUMN^", "ALTER TABLE t DROP COLUMN ^COLUMN", "ALTER TABLE t DROP COLUMN a ^b", "ALTER TABLE t DROP CONSTRAINT^", "ALTER TABLE t DROP CONSTRAINT ^CONSTRAINT k", "ALTER TABLE t DROP CONSTRAINT k ^UNIQUE", "ALTER TABLE t RENAME^", "ALTER TABLE t RENAME ^u", "ALTER TABLE t RENAME TO^", "ALTER TABLE t RENAME TO ^TO", "ALTER TABLE t RENAME TO u ^v", "ALTER TABLE t RENAME ^COLUMN a TO b",
		"ALTER TABLE t ADD CONSTRAINT^", "ALTER TABLE t ADD CONSTRAINT ^UNIQUE (a)", "ALTER TABLE t ADD CONSTRAINT k^", "ALTER TABLE t ADD CONSTRAINT k ^(a)", "ALTER TABLE t ADD CONSTRAINT k ^KEY (a)", "ALTER TABLE t ADD CONSTRAINT k UNIQUE^", "ALTER TABLE t ADD CONSTRAINT k UNIQUE ^a", "ALTER TABLE t ADD CONSTRAINT k UNIQUE (^)", "ALTER TABLE t ADD CONSTRAINT k UNIQUE (^1)", "ALTER TABLE t ADD CONSTRAINT k UNIQUE (a^", "ALTER TABLE t ADD CONSTRAINT k UNIQUE (a,^)", "ALTER TABLE t ADD CONSTRAINT k UNIQUE (a ^b)", "ALTER TABLE t ADD CONSTRAINT k UNIQUE (a ^+ 1)", "ALTER TABLE t ADD CONSTRAINT k UNIQUE (a) ^(b)", "ALTER TABLE t ADD CONSTRAINT k UNIQUE (a)^, CONSTRAINT l UNIQUE (b)",
		"ALTER TABLE t ADD CONSTRAINT k CHECK^", "ALTER TABLE t ADD CONSTRAINT k CHECK ^a", "ALTER TABLE t ADD CONSTRAINT k CHECK (^)", "ALTER TABLE t ADD CONSTRAINT k CHECK (a^", "ALTER TABLE t ADD CONSTRAINT k CHECK (a^, b)", "ALTER TABLE t ADD CONSTRAINT k CHECK (a = ^)", "ALTER TABLE t ADD CONSTRAINT k CHECK (a ^b)", "ALTER TABLE t ADD CONSTRAINT k CHECK (a) ^OR b",
		"ALTER TABLE t ADD CONSTRAINT k FOREIGN^", "ALTER TABLE t ADD CONSTRAINT k FOREIGN ^(a)", "ALTER TABLE t ADD CONSTRAINT k FOREIGN KEY^", "ALTER TABLE t ADD CONSTRAINT k FOREIGN KEY ^a", "ALTER TABLE t ADD CONSTRAINT k FOREIGN KEY (^)", "ALTER TABLE t ADD CONSTRAINT k FOREIGN KEY (a^", "ALTER TABLE t ADD CONSTRAINT k FOREIGN KEY (a)^", "ALTER TABLE t ADD CONSTRAINT k FOREIGN KEY (a) ^u (b)", "ALTER TABLE t ADD CONSTRAINT k FOREIGN KEY (a) REFERENCES^", "ALTER TABLE t ADD CONSTRAINT k FOREIGN KEY (a) REFERENCES ^(b)", "ALTER TABLE t ADD CONSTRAINT k FOREIGN KEY (a) REFERENCES u^", "ALTER TABLE t ADD CONSTRAINT k FOREIGN KEY (a) REFERENCES u (^", "ALTER TABLE t ADD CONSTRAINT k FOREIGN KEY (a) REFERENCES u (^)", "ALTER TABLE t ADD CONSTRAINT k FOREIGN KEY (a) REFERENCES u (b^", "ALTER TABLE t ADD CONSTRAINT k FOREIGN KEY (a) REFERENCES u (b) ^c",
		"CREATE INDEX^", "CREATE INDEX ^ON t (a)", "CREATE INDEX i^", "CREATE INDEX i ^t (a)", "CREATE INDEX i ON^", "CREATE INDEX i ON ^(a)", "CREATE INDEX i ON t^", "CREATE INDEX i ON t ^a", "CREATE INDEX i ON t (^)", "CREATE INDEX i ON t (a^", "CREATE INDEX i ON t (a,^", "CREATE INDEX i ON t (a ^DESC)", "CREATE INDEX i ON t (a) ^b",
		"DROP INDEX^", "DROP INDEX ^1 ON t", "DROP INDEX i^", "DROP INDEX i ^t", "DROP INDEX i ON^", "DROP INDEX i ON t ^(a)",
		"CREATE ROLE^", "CREATE ROLE ^ROLE", "CREATE ROLE a ^b", "CREATE ROLE a^, b", "DROP ROLE^", "DROP ROLE ^$1", "DROP ROLE a ^TO b",
		"GRANT^", "GRANT ^a TO b", "GRANT ^CREATE ON t TO a", "GRANT ^ALL ON t TO a", "GRANT ^GRANT ON t TO a", "GRANT ROLE^", "GRANT ROLE ^TO b", "GRANT ROLE a^", "GRANT ROLE a ^FROM b", "GRANT ROLE a ^b", "GRANT ROLE a ^ON b", "GRANT ROLE a TO^", "GRANT ROLE a TO ^TO", "GRANT ROLE a TO b ^WITH GRANT OPTION", "GRANT ROLE a^, c TO b",
		"GRANT SELECT^", "GRANT SELECT^, INSERT ON t TO a", "GRANT SELECT ^t TO a", "GRANT SELECT ^TO a", "GRANT SELECT ON^", "GRANT SELECT ON ^TABLE t TO a", "GRANT SELECT ON t^", "GRANT SELECT ON t ^FROM a", "GRANT SELECT ON t TO^", "GRANT SELECT ON t TO ^ROLE a", "GRANT SELECT ON t TO a WITH^", "GRANT SELECT ON t TO a ^GRANT OPTION", "GRANT SELECT ON t TO a WITH ^OPTION", "GRANT SELECT ON t TO a WITH GRANT^", "GRANT SELECT ON t TO a WITH GRANT ^GRANT", "GRANT SELECT ON t TO a WITH GRANT OPTION ^a",
		"REVOKE^", "REVOKE ^t", "REVOKE ^DROP ON t FROM a", "REVOKE ROLE^", "REVOKE ROLE ^FROM b", "REVOKE ROLE a ^TO b", "REVOKE ROLE a FROM^", "REVOKE ROLE a FROM b ^c", "REVOKE DELETE^", "REVOKE DELETE ^FROM t", "REVOKE DELETE ON^", "REVOKE DELETE ON t ^TO a", "REVOKE DELETE ON t FROM^", "REVOKE DELETE ON t FROM a ^WITH GRANT OPTION", "REVOKE ^GRANT OPTION FOR DELETE ON t FROM a",
		"INSERT^", "INSERT ^t VALUES (1)", "INSERT INTO^", "INSERT INTO ^VALUES (1)", "INSERT INTO t^", "INSERT INTO t ^SELECT * FROM u", "INSERT INTO t ^1", "INSERT INTO t (^) VALUES (1)", "INSERT INTO t (^1) VALUES (1)", "INSERT INTO t (a ^VALUES (1)", "INSERT INTO t (a,^) VALUES (1)", "INSERT INTO t (a)^", "INSERT INTO t (a) ^(b) VALUES (1)", "INSERT INTO t VALUES^", "INSERT INTO t VALUES ^1", "INSERT INTO t VALUES (^", "INSERT INTO t VALUES (^)", "INSERT INTO t VALUES (1^", "INSERT INTO t VALUES (1,^)", "INSERT INTO t VALUES (1 ^2)", "INSERT INTO t VALUES (^DEFAULT)", "INSERT INTO t VALUES (1),^", "INSERT INTO t VALUES (1), ^1", "INSERT INTO t VALUES (1), (^)", "INSERT INTO t VALUES (1) ^(2)", "INSERT INTO t VALUES (1) ^WHERE a",
		"UPDATE^", "UPDATE ^SET a = 1", "UPDATE t^", "UPDATE t ^a = 1", "UPDATE t SET^", "UPDATE t SET ^1 = a", "UPDATE t SET ^(a) = 1", "UPDATE t SET a^", "UPDATE t SET a ^1", "UPDATE t SET a ^<> 1", "UPDATE t SET a =^", "UPDATE t SET a = ^WHERE b", "UPDATE t SET a = 1 ^b = 2", "UPDATE t SET a = 1,^", "UPDATE t SET a = 1, ^WHERE b", "UPDATE t SET a = 1 WHERE^", "UPDATE t SET a = 1 WHERE b ^WHERE c", "UPDATE t SET a = 1 WHERE b^, c = 2", "UPDATE t SET a = 1 ^ORDER BY a", "UPDATE t SET a = b = c ^= d", "UPDATE t SET a ^IN (1)",
		"DELETE^", "DELETE ^t", "DELETE ^* FROM t", "DELETE FROM^", "DELETE FROM ^WHERE a", "DELETE FROM t ^a", "DELETE FROM t WHERE^", "DELETE FROM t WHERE ^WHERE", "DELETE FROM t WHERE a ^b", "DELETE FROM t WHERE a ^LIMIT 1", "DELETE FROM t WHERE a = b ^= c", "DELETE FROM t WHERE (a^", "DELETE FROM t WHERE a^)",
		"SELECT^", "SELECT ^FROM t", "SELECT *^", "SELECT *^, a FROM t", "SELECT * ^a FROM t", "SELECT * ^* FROM t", "SELECT a^", "SELECT a ^b FROM t", "SELECT a,^", "SELECT a, ^FROM t", "SELECT a, ^* FROM t", "SELECT a * ^FROM t", "SELECT (^*) FROM t", "SELECT a ^WHERE b", "SELECT a FROM^", "SELECT a FROM ^WHERE b", "SELECT a FROM t^, u", "SELECT a FROM t ^u", "SELECT a FROM t WHERE^", "SELECT a FROM t WHERE ^ORDER BY b", "SELECT a FROM t WHERE b ^c", "SELECT a FROM t WHERE b ^WHERE c", "SELECT ^DISTINCT a FROM t", "SELECT a FROM t ^GROUP BY a",
		"SELECT a FROM t ^BY a", "SELECT a FROM t ORDER^", "SELECT a FROM t ORDER ^a", "SELECT a FROM t ORDER BY^", "SELECT a FROM t ORDER BY ^DESC", "SELECT a FROM t ORDER BY ^*", "SELECT a FROM t ORDER BY a ^ASC", "SELECT a FROM t ORDER BY a DESC ^DESC", "SELECT a FROM t ORDER BY a,^", "SELECT a FROM t ORDER BY a DESC ^b", "SELECT a FROM t ORDER BY a ^WHERE b", "SELECT a FROM t ORDER BY a ^ORDER BY b", "SELECT a FROM t ^DESC",
		"SELECT a FROM t LIMIT^", "SELECT a FROM t LIMIT ^a", "SELECT a FROM t LIMIT ^-1", "SELECT a FROM t LIMIT ^$1", "SELECT a FROM t LIMIT ^'1'", "SELECT a FROM t LIMIT ^(1)", "SELECT a FROM t LIMIT ^NULL", "SELECT a FROM t LIMIT 1 ^2", "SELECT a FROM t LIMIT 1 ^+ 1", "SELECT a FROM t LIMIT 1^, 2", "SELECT a FROM t LIMIT 1 ^WHERE a", "SELECT a FROM t LIMIT 1 ^ORDER BY a", "SELECT a FROM t LIMIT 1 ^LIMIT 1",
		"PREPARE^", "PREPARE ^AS SELECT * FROM t", "PREPARE p^", "PREPARE p ^SELECT * FROM t", "PREPARE p AS^", "PREPARE p AS ^t", "PREPARE p AS ^CREATE ROLE a", "PREPARE p AS ^DROP TABLE t", "PREPARE p AS ^GRANT ROLE a TO b", "PREPARE p AS ^ALTER TABLE t RENAME TO u", "PREPARE p AS ^PREPARE q AS DELETE FROM t", "PREPARE p AS ^EXECUTE q", "PREPARE p AS ^DEALLOCATE q", "PREPARE p AS ^(DELETE FROM t)", "PREPARE p AS DELETE ^t", "PREPARE p AS DELETE FROM t ^AS", "PREPARE p AS SELECT ^FROM t", "PREPARE p AS INSERT INTO t VALUES (^)", "PREPARE p AS UPDATE t SET a =^", "PREPARE ^1 AS DELETE FROM t", "PREPARE p ^(INT) AS DELETE FROM t",
		"EXECUTE^", "EXECUTE ^(1)", "EXECUTE ^EXECUTE", "EXECUTE p ^1", "EXECUTE p (^", "EXECUTE p (^)", "EXECUTE p (1^", "EXECUTE p (1,^)", "EXECUTE p (1 ^2)", "EXECUTE p (1) ^(2)", "EXECUTE p (1)^, (2)", "EXECUTE p ^q", "DEALLOCATE^", "DEALLOCATE ^ALL", "DEALLOCATE ^PREPARE p", "DEALLOCATE p ^(1)", "DEALLOCATE p ^q",
	} {
		mustFail(t, marked, api.ErrSay)
	}
}

// P13.1: lists that are too long: the comma that would begin one more can't stand, whatever follows it.
func TestTooMany(t *testing.T) {
	const nine = "1,2,3,4,5,6,7,8^,9"
	for _, marked := range []string{
		"CREATE INDEX i ON t (a, b, c^, d)", "CREATE INDEX i ON t (a, b, c^,", "CREATE INDEX i ON t (a, b, c^, 1)", "ALTER TABLE t ADD CONSTRAINT k UNIQUE (a, b, c^, d)", "ALTER TABLE t ADD CONSTRAINT k FOREIGN KEY (a, b, c^, d) REFERENCES u (a, b, c, d)",
		"INSERT INTO t (a, b, c, d, e, f^, g) VALUES (1)", "INSERT INTO t (a, b, c, d, e, f^,) VALUES (1)", "INSERT INTO t VALUES (1, 2, 3, 4, 5, 6^, 7)", "INSERT INTO t VALUES (1), (1, 2, 3, 4, 5, 6^, 7)", "INSERT INTO t VALUES " + times("(1)", ", ", 8) + "^, (1)", "INSERT INTO t VALUES " + times("(1)", ", ", 8) + "^,",
		"UPDATE t SET " + times("a = 1", ", ", 6) + "^, a = 1", "UPDATE t SET " + times("a = 1", ", ", 6) + "^, WHERE a", "SELECT 1, 2, 3, 4, 5, 6^, 7 FROM t", "SELECT 1, 2, 3, 4, 5, 6^, FROM t", "SELECT * FROM t ORDER BY a, b DESC, c^, d", "SELECT * FROM t ORDER BY a, b, c DESC^, d", "SELECT * FROM t ORDER BY a, b, c^, LIMIT 1",
		"EXECUTE p (1, 2, 3, 4, 5, 6^, 7)", "DELETE FROM t WHERE a IN (" + nine + ")", "SELECT COALESCE(1, 2, 3, 4^, 5) FROM t", "SELECT ABS(1^, 2) FROM t", "PREPARE p AS SELECT 1, 2, 3, 4, 5, 6^, 7 FROM t", "EXECUTE p (1, 2 IN (" + nine + "))",
	} {
		mustFail(t, marked, api.ErrSay)
	}
}

// P13.1: a constraint's Refs are as many as its Cols.
func TestRefs(t *testing.T) {
	for _, x := range []struct{ cols, refs string }{
		{"a", "(^)"}, {"a", "(b^, c)"}, {"a", "(b^,"}, {"a", "(b ^c)"}, {"a, b", "(^)"}, {"a, b", "(c^)"}, {"a, b", "(c^"}, {"a, b", "(c ^d)"}, {"a, b", "(c, d^, e)"}, {"a, b", "(c, d^,)"}, {"a, b", "(c,^)"}, {"a, b, c", "(d^)"}, {"a, b, c", "(d, e^)"}, {"a, b, c", "(d, e,^)"}, {"a, b, c", "(d, e, f^, g)"}, {"a, b, c", "(d, e, f^"},
	} {
		cons := "CONSTRAINT f FOREIGN KEY (" + x.cols + ") REFERENCES u " + x.refs
		mustFail(t, "ALTER TABLE t ADD "+cons, api.ErrSay)
		mustFail(t, "CREATE TABLE t (a INT, "+cons, api.ErrSay)
	}
}

// P13.1: the comma behind a column or a constraint, and what follows it: with fewer than may be, as many, and a constraint ahead.
func TestCommaInCreateTable(t *testing.T) {
	const col, cons = "a INT", "CONSTRAINT k UNIQUE (a)"
	table := func(cols, conses int) string {
		s := "CREATE TABLE t (" + times(col, ", ", cols)
		return s + strings.Repeat(", "+cons, conses)
	}
	others := []string{"1", "INT", "UNIQUE (a)", "CHECK (a)", "(a)", "NULL", "'a'", "$1", "CONSTRAINTS k", ""}
	for cols := 1; cols <= 6; cols++ {
		for conses := 0; conses <= 6; conses++ {
			head := table(cols, conses)
			if len(head) > 340 {
				continue
			}
			for _, other := range others {
				mustFail(t, head+", ^"+other, api.ErrSay)
				mustFail(t, head+" ^"+other, api.ErrSay)
			}
			mustFail(t, head+", ^)", api.ErrSay)
			mustFail(t, head+", ^, b INT)", api.ErrSay)
			switch {
			case conses > 0:
				mustFail(t, head+", ^b INT)", api.ErrSay)
				mustFail(t, head+", ^b)", api.ErrSay)
			case cols == 6:
				mustFail(t, head+"^, b INT)", api.ErrSay)
				mustFail(t, head+"^, b", api.ErrSay)
			default:
				mustFail(t, head+", b^", api.ErrSay)
			}
			if conses == 6 {
				mustFail(t, head+"^, "+cons+")", api.ErrSay)
				mustFail(t, head+"^, CONSTRAINT", api.ErrSay)
				mustFail(t, head+"^, CONSTRAINT )", api.ErrSay)
			} else {
				mustFail(t, head+", CONSTRAINT ^)", api.ErrSay)
			}
		}
	}
	mustFail(t, "CREATE TABLE t (^CONSTRAINT k UNIQUE (a))", api.ErrSay)
	mustFail(t, "CREATE TABLE t (^, a INT)", api.ErrSay)
}

// exprs are texts with an expression at the place of the ?, of each kind that has one.
func exprs() []string {
	return []string{
		"CREATE TABLE t (a INT, CONSTRAINT c CHECK (?), CONSTRAINT k UNIQUE (a))", "ALTER TABLE t ADD CONSTRAINT c CHECK (?)", "INSERT INTO t VALUES (?)", "INSERT INTO t (a) VALUES (1, ?, 2), (3)", "INSERT INTO t VALUES (1), (2, ?)",
		"UPDATE t SET a = ?", "UPDATE t SET a = 1, b = ? WHERE c", "UPDATE t SET a = 1 WHERE ?", "DELETE FROM t WHERE ?", "SELECT ? FROM t", "SELECT a, ?, b FROM t LIMIT 1", "SELECT * FROM t WHERE ? ORDER BY a", "SELECT * FROM t ORDER BY ?", "SELECT a FROM t WHERE b ORDER BY a DESC, ? DESC LIMIT 5",
		"PREPARE p AS DELETE FROM t WHERE ?", "PREPARE p AS INSERT INTO t VALUES (?)", "PREPARE p AS SELECT * FROM t ORDER BY ?", "PREPARE p AS UPDATE t SET a = ?", "EXECUTE p (?)", "EXECUTE p (1, ?, 2)",
	}
}

// P13.1: the errors of expressions, by the token at which they are; one that is too high by the token with which it begins, ahead of all that stands behind it.
func TestErrorsOfExpressions(t *testing.T) {
	for _, x := range []struct {
		e    string
		want api.Errno
	}{
		{"^" + deep, api.ErrDeep}, {"^((" + deep + "))", api.ErrDeep}, {"^" + times("a", " + ", 9), api.ErrDeep}, {"^" + deep + " b", api.ErrDeep}, {"^" + deep + ") OR", api.ErrDeep},
		{"^9223372036854775808", api.ErrRange}, {"-^9223372036854775808", api.ErrRange}, {"a = ^9999999999999999999 OR OR", api.ErrRange}, {"^'" + times("x", "", 33) + "'", api.ErrLong}, {"a || ^'" + times("x", "", 33) + "' ||", api.ErrLong},
		{"a OR ^OR", api.ErrSay}, {"(a ^b)", api.ErrSay}, {"a IS ^b", api.ErrSay}, {"(" + deep + ") OR ^OR", api.ErrSay}, {"(" + deep + ") + ^9999999999999999999", api.ErrRange}, {"COALESCE(^)", api.ErrSay}, {"^DEFAULT", api.ErrSay}, {"^a" + times("x", "", 12), api.ErrWord}, {"a = ^#1", api.ErrWord},
	} {
		for _, text := range exprs() {
			mustFail(t, strings.Replace(text, "?", x.e, 1), x.want)
		}
	}
	for _, text := range exprs() {
		for _, e := range []string{high, "a", "((a))", "9223372036854775807", "'" + times("x", "", 32) + "'"} {
			if s, at, err := parse.Parse(strings.Replace(text, "?", e, 1)); err != api.OK || at != 0 || s.Kind == 0 {
				t.Errorf("Parse of %q with %q is %d, %d", text, e, at, err)
			}
		}
	}
}

// P13.1: of several errors the first one from the left on is told.
func TestFirstError(t *testing.T) {
	for _, x := range []struct {
		marked string
		want   api.Errno
	}{
		{"INSERT INTO t VALUES (^" + deep + ", 9999999999999999999)", api.ErrDeep}, {"INSERT INTO t VALUES (^9999999999999999999, " + deep + ")", api.ErrRange}, {"INSERT INTO t VALUES (1 ^2, 9999999999999999999)", api.ErrSay}, {"INSERT INTO t (^1) VALUES (9999999999999999999)", api.ErrSay},
		{"SELECT ^" + deep + " FROM t LIMIT 10000", api.ErrDeep}, {"SELECT a ^t WHERE " + deep, api.ErrSay}, {"SELECT a FROM t WHERE ^" + deep + " LIMIT 10000", api.ErrDeep}, {"SELECT a FROM t WHERE b LIMIT ^10000 c", api.ErrRange}, {"SELECT * FROM t LIMIT 1 ^10000", api.ErrSay},
		{"UPDATE t SET a = ^" + deep + ", 1 = b", api.ErrDeep}, {"UPDATE t SET ^1 = " + deep, api.ErrSay}, {"CREATE TABLE t (a ^a, CONSTRAINT c CHECK (" + deep + "))", api.ErrSay}, {"CREATE TABLE t (a INT, CONSTRAINT c CHECK (^" + deep + "), b INT)", api.ErrDeep},
	} {
		mustFail(t, x.marked, x.want)
	}
}

// P13.1: numbers behind LIMIT.
func TestLimit(t *testing.T) {
	for text, n := range map[string]int{"0": 0, "1": 1, "9998": 9998, "9999": 9999} {
		mustRead(t, "SELECT * FROM t LIMIT "+text, api.Stmt{Kind: api.Select, Table: "t", Limit: n})
	}
	for _, text := range []string{"10000", "10001", "99999", "2147483648", "4294967296", "9223372036854775807", "9223372036854775808", "9999999999999999999", "10000 10000"} {
		mustFail(t, "SELECT * FROM t LIMIT ^"+text, api.ErrRange)
		mustFail(t, "PREPARE p AS SELECT a FROM t WHERE b ORDER BY c LIMIT ^"+text, api.ErrRange)
	}
	mustFail(t, "SELECT * FROM t LIMIT ^09", api.ErrWord)
	mustFail(t, "SELECT * FROM t LIMIT ^10000000000000000000", api.ErrWord)
}

// P13.1: the errors of package lex, and their places, are told ahead of all others.
func TestErrorsOfLex(t *testing.T) {
	for _, x := range []struct {
		marked string
		want   api.Errno
	}{
		{"DROP TABLE t^;", api.ErrWord}, {"COMMIT ^!", api.ErrWord}, {"^\tSELECT", api.ErrWord}, {"DELETE FROM t WHERE " + deep + " ^?", api.ErrWord}, {"EXECUTE p (9999999999999999999, ^01)", api.ErrWord}, {"EXECUTE p (^$7)", api.ErrWord}, {"EXECUTE p (^'x)", api.ErrWord}, {"DROP TABLE ^Table", api.ErrWord}, {"DROP TABLE ^abcdefghijklm", api.ErrWord}, {"^DROP1 TABLE t", api.ErrWord},
		{"^DROP TABLE t" + strings.Repeat(" ", 400), api.ErrLong}, {"^" + times("!", "", 401), api.ErrLong}, {times("t", " ", 120) + "^", api.ErrFull}, {"EXECUTE p (" + times("1", "+", 59) + "^)", api.ErrFull},
	} {
		mustFail(t, x.marked, x.want)
	}
	mustRead(t, "DROP TABLE t"+strings.Repeat(" ", api.MaxSql-len("DROP TABLE t")), api.Stmt{Kind: api.DropTable, Table: "t"})
	mustRead(t, "EXECUTE p "+times("(", "", 57)+"1+1"+times(")", "", 57), api.Stmt{Kind: api.Execute, Name: "p", Rows: rows(row("1 + 1"))})
	for _, s := range []string{"\x00", "\xff", "DROP\x00TABLE t", strings.Repeat("SELECT ", 1<<20)} {
		if _, _, err := parse.Parse(s); err != api.ErrWord && err != api.ErrLong {
			t.Errorf("%d", err)
		}
	}
}

// P13.1: names may be any small letters; keys are none, and words in small letters are names.
func TestNamesAndKeys(t *testing.T) {
	mustRead(t, "CREATE TABLE table (int INT, not TEXT NOT NULL)", api.Stmt{Kind: api.CreateTable, Table: "table", Cols: []api.Column{{Name: "int", Type: api.Int}, {Name: "not", Type: api.Text, NotNull: true}}})
	mustRead(t, "ALTER TABLE add ADD COLUMN constraint BOOL", api.Stmt{Kind: api.AddColumn, Table: "add", Cols: []api.Column{{Name: "constraint", Type: api.Bool}}})
	mustRead(t, "GRANT ROLE role TO to", api.Stmt{Kind: api.GrantRole, Name: "role", Role: "to"})
	mustRead(t, "SELECT from FROM select WHERE where ORDER BY desc LIMIT 1", api.Stmt{Kind: api.Select, Table: "select", Rows: rows(row("from")), Where: ex("where"), Order: []api.Order{{E: ex("desc")}}, Limit: 1})
	for _, marked := range []string{"^select * FROM t", "DROP ^table t", "SELECT * ^from t", "CREATE ROLE ^ANN", "CREATE TABLE t (a ^int)", "ALTER TABLE t ADD COLUMN ^CONSTRAINT INT"} {
		mustFail(t, marked, api.ErrSay)
	}
}

// P13.1: what is answered is in memory of its own: no two of its lists share any, and two answers neither.
func TestNothingShared(t *testing.T) {
	for _, x := range rights() {
		first, _, _ := parse.Parse(x.text)
		second, _, _ := parse.Parse(x.text)
		spoilSpare(reflect.ValueOf(first))
		if !stmt.Same(first, x.s) {
			t.Errorf("lists of what %q says share their memory", x.text)
		}
		spoilAll(reflect.ValueOf(first))
		if !stmt.Same(second, x.s) {
			t.Errorf("two answers to %q share their memory", x.text)
		}
	}
}

// spoilSpare goes through all lists, and writes to the room behind each.
func spoilSpare(v reflect.Value) {
	switch v.Kind() {
	case reflect.Struct:
		for i := range v.NumField() {
			spoilSpare(v.Field(i))
		}
	case reflect.Slice:
		for i := range v.Len() {
			spoilSpare(v.Index(i))
		}
		spare := v.Slice(0, v.Cap())
		for i := v.Len(); i < v.Cap(); i++ {
			spoilItem(spare.Index(i))
		}
	}
}

// spoilAll goes through all lists, and writes to each item.
func spoilAll(v reflect.Value) {
	switch v.Kind() {
	case reflect.Struct:
		for i := range v.NumField() {
			spoilAll(v.Field(i))
		}
	case reflect.Slice:
		for i := range v.Len() {
			spoilAll(v.Index(i))
			spoilItem(v.Index(i))
		}
	}
}

// spoilItem writes to an item of a list.
func spoilItem(v reflect.Value) {
	switch v.Kind() {
	case reflect.Struct:
		for i := range v.NumField() {
			spoilItem(v.Field(i))
		}
	case reflect.String:
		v.SetString("spoilt")
	case reflect.Int:
		v.SetInt(77)
	case reflect.Bool:
		v.SetBool(!v.Bool())
	case reflect.Slice:
		v.SetZero()
	}
}
