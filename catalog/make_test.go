package catalog_test

import (
	"strconv"
	"strings"
	"testing"

	"registrar/api"
	"registrar/catalog"
)

// lines of the shop, which statements of one table leave as they are.
const (
	lineM  = "1 root: m (a INT NOT NULL, b TEXT, c BOOL, d INT, CONSTRAINT k UNIQUE (a), CONSTRAINT l UNIQUE (b, a), CONSTRAINT g CHECK (a > 0 OR c))\n"
	lineS  = "3 root: s (p INT, q INT, r TEXT, CONSTRAINT k UNIQUE (p), CONSTRAINT f FOREIGN KEY (q) REFERENCES s (p))\n"
	lineU  = "5 root: u (x INT, y TEXT, z INT, CONSTRAINT f FOREIGN KEY (y, x) REFERENCES m (b, a)) INDEX i (z) INDEX j (z, x)\n"
	roles  = "role root in \nrole ann in root\n"
	grant1 = "grant SELECT on m to ann by root true\n"
	grant2 = "grant INSERT on u to ann by root false\n"
	grant3 = "grant SELECT on m to bob by ann false\n"
	grant4 = "grant SELECT on none to bob by ann false\n"
	grants = grant1 + grant2 + grant3 + grant4
)

// mustMake holds what a statement of ann makes of a catalog against lines, and that the catalog stays.
func mustMake(t *testing.T, c api.Catalog, text, want string) {
	t.Helper()
	before := show(c)
	next, err := catalog.Make(c, say(text), "ann", api.MaxVersion)
	if got := show(next); err != api.OK || got != want {
		t.Errorf("%s is %d, and makes\n%swant\n%s", text, err, got, want)
	}
	if err := catalog.Check(next); err != api.OK {
		t.Errorf("%s makes what is %d", text, err)
	}
	if show(c) != before {
		t.Errorf("%s makes of what it was handed\n%s", text, show(c))
	}
}

// mustRefuse holds the error of a statement against one that is wanted, with nothing made.
func mustRefuse(t *testing.T, c api.Catalog, s api.Stmt, owner string, top int, want api.Errno) {
	t.Helper()
	before := show(c)
	next, err := catalog.Make(c, s, owner, top)
	if err != want || next.Version != 0 || len(next.Tables)+len(next.Roles)+len(next.Grants) > 0 {
		t.Errorf("%+v is %d, and makes %+v; want %d", s, err, next, want)
	}
	if show(c) != before {
		t.Errorf("%+v makes of what it was handed\n%s", s, show(c))
	}
}

// P17.3: what each kind makes.
func TestMake(t *testing.T) {
	c := shop(t)
	mustMake(t, c, "CREATE TABLE a (v INT, w INT, CONSTRAINT f FOREIGN KEY (v) REFERENCES m (a), CONSTRAINT g CHECK (v < w))", "6\n6 ann: a (v INT, w INT, CONSTRAINT f FOREIGN KEY (v) REFERENCES m (a), CONSTRAINT g CHECK (v < w))\n"+lineM+lineS+lineU+roles+grants)
	mustMake(t, c, "CREATE TABLE n (v INT NOT NULL)", "6\n"+lineM+"6 ann: n (v INT NOT NULL)\n"+lineS+lineU+roles+grants)
	mustMake(t, c, "CREATE TABLE z (v INT, CONSTRAINT k UNIQUE (v), CONSTRAINT f FOREIGN KEY (v) REFERENCES z (v))", "6\n"+lineM+lineS+lineU+"6 ann: z (v INT, CONSTRAINT k UNIQUE (v), CONSTRAINT f FOREIGN KEY (v) REFERENCES z (v))\n"+roles+grants)
	mustMake(t, c, "DROP TABLE u", "6\n"+lineM+lineS+roles+grant1+grant3+grant4)
	mustMake(t, c, "DROP TABLE s", "6\n"+lineM+lineU+roles+grants)
	mustMake(t, c, "ALTER TABLE m ADD COLUMN e BOOL NOT NULL", "6\n"+strings.Replace(strings.Replace(lineM, "d INT", "d INT, e BOOL NOT NULL", 1), "1", "6", 1)+lineS+lineU+roles+grants)
	mustMake(t, c, "ALTER TABLE m DROP COLUMN d", "6\n"+strings.Replace(strings.Replace(lineM, ", d INT", "", 1), "1", "6", 1)+lineS+lineU+roles+grants)
	mustMake(t, c, "ALTER TABLE s DROP COLUMN r", "6\n"+lineM+strings.Replace(strings.Replace(lineS, ", r TEXT", "", 1), "3", "6", 1)+lineU+roles+grants)
	mustMake(t, c, "ALTER TABLE s ADD CONSTRAINT n UNIQUE (r, p)", "6\n"+lineM+strings.Replace(strings.Replace(lineS, "s (p))", "s (p), CONSTRAINT n UNIQUE (r, p))", 1), "3", "6", 1)+lineU+roles+grants)
	mustMake(t, c, "ALTER TABLE s ADD CONSTRAINT n FOREIGN KEY (r, q) REFERENCES m (b, a)", "6\n"+lineM+strings.Replace(strings.Replace(lineS, "s (p))", "s (p), CONSTRAINT n FOREIGN KEY (r, q) REFERENCES m (b, a))", 1), "3", "6", 1)+lineU+roles+grants)
	mustMake(t, c, "ALTER TABLE s ADD CONSTRAINT n CHECK (p IS NULL)", "6\n"+lineM+strings.Replace(strings.Replace(lineS, "s (p))", "s (p), CONSTRAINT n CHECK (p IS NULL))", 1), "3", "6", 1)+lineU+roles+grants)
	mustMake(t, c, "ALTER TABLE m DROP CONSTRAINT k", "6\n"+strings.Replace(strings.Replace(lineM, "CONSTRAINT k UNIQUE (a), ", "", 1), "1", "6", 1)+lineS+lineU+roles+grants)
	mustMake(t, c, "ALTER TABLE m DROP CONSTRAINT g", "6\n"+strings.Replace(strings.Replace(lineM, ", CONSTRAINT g CHECK (a > 0 OR c)", "", 1), "1", "6", 1)+lineS+lineU+roles+grants)
	mustMake(t, c, "ALTER TABLE u DROP CONSTRAINT f", "6\n"+lineM+lineS+"6 root: u (x INT, y TEXT, z INT) INDEX i (z) INDEX j (z, x)\n"+roles+grants)
	mustMake(t, c, "CREATE INDEX k ON u (y)", "6\n"+lineM+lineS+"6"+strings.TrimSuffix(lineU[1:], "\n")+" INDEX k (y)\n"+roles+grants)
	mustMake(t, c, "CREATE INDEX h ON m (c, a, b)", "6\n6"+strings.TrimSuffix(lineM[1:], "\n")+" INDEX h (c, a, b)\n"+lineS+lineU+roles+grants)
	mustMake(t, c, "DROP INDEX i ON u", "6\n"+lineM+lineS+"6"+strings.Replace(lineU[1:], " INDEX i (z)", "", 1)+roles+grants)
	mustMake(t, c, "DROP INDEX j ON u", "6\n"+lineM+lineS+"6"+strings.Replace(lineU[1:], " INDEX j (z, x)", "", 1)+roles+grants)
}

// P17.3: a name that is given moves the table, and goes to its children, to what it has of its own, and to grants.
func TestRename(t *testing.T) {
	c := shop(t)
	for _, x := range []struct {
		name  string
		place int
	}{{"a", 0}, {"mm", 0}, {"n", 0}, {"t", 1}, {"x", 2}, {"abcdefghijkl", 0}} {
		lines := []string{lineS, strings.Replace(strings.Replace(lineU, "5", "6", 1), "REFERENCES m", "REFERENCES "+x.name, 1)}
		moved := strings.Replace(strings.Replace(lineM, "1", "6", 1), ": m", ": "+x.name, 1)
		lines = append(lines[:x.place], append([]string{moved}, lines[x.place:]...)...)
		mustMake(t, c, "ALTER TABLE m RENAME TO "+x.name, "6\n"+strings.Join(lines, "")+roles+strings.ReplaceAll(grants, "on m ", "on "+x.name+" "))
	}
	mustMake(t, c, "ALTER TABLE s RENAME TO v", "6\n"+lineM+lineU+"6 root: v (p INT, q INT, r TEXT, CONSTRAINT k UNIQUE (p), CONSTRAINT f FOREIGN KEY (q) REFERENCES v (p))\n"+roles+grants)
	mustMake(t, c, "ALTER TABLE u RENAME TO h", "6\n6"+strings.Replace(strings.TrimPrefix(lineU, "5"), ": u", ": h", 1)+lineM+lineS+roles+strings.Replace(grants, "on u", "on h", 1))
	c = after(t, c, "CREATE TABLE a (v INT, w TEXT, CONSTRAINT e FOREIGN KEY (v) REFERENCES s (p), CONSTRAINT f FOREIGN KEY (v) REFERENCES m (a), CONSTRAINT g FOREIGN KEY (w, v) REFERENCES m (b, a))")
	mustMake(t, c, "ALTER TABLE m RENAME TO o", "7\n7 root: a (v INT, w TEXT, CONSTRAINT e FOREIGN KEY (v) REFERENCES s (p), CONSTRAINT f FOREIGN KEY (v) REFERENCES o (a), CONSTRAINT g FOREIGN KEY (w, v) REFERENCES o (b, a))\n"+
		strings.Replace(strings.Replace(lineM, "1", "7", 1), ": m", ": o", 1)+lineS+strings.Replace(strings.Replace(lineU, "5", "7", 1), "REFERENCES m", "REFERENCES o", 1)+roles+strings.ReplaceAll(grants, "on m ", "on o "))
}

// P17.3: grants on a name that is no table's stay with that name, and go to the table that is given it, as they were told there.
func TestGrantsOfNames(t *testing.T) {
	c := shop(t)
	mustMake(t, c, "ALTER TABLE u RENAME TO none", "6\n"+lineM+"6"+strings.Replace(strings.TrimPrefix(lineU, "5"), ": u", ": none", 1)+lineS+roles+strings.Replace(grants, "on u", "on none", 1))
	c = after(t, c, "DROP TABLE u")
	mustMake(t, c, "DROP TABLE m", "7\n"+lineS+roles+grant4)
}

// P17.3: errors of each kind, in their order.
func TestMakeOfFaults(t *testing.T) {
	c := after(t, shop(t), "CREATE INDEX h ON u (x)", "ALTER TABLE s ADD CONSTRAINT g UNIQUE (r)")
	c = after(t, c, "CREATE TABLE full (a INT, b INT, c INT, d INT, e INT, f INT, CONSTRAINT k1 UNIQUE (a), CONSTRAINT k2 UNIQUE (b), CONSTRAINT k3 UNIQUE (a), CONSTRAINT k4 UNIQUE (a), CONSTRAINT k5 UNIQUE (a), CONSTRAINT k6 UNIQUE (a))", "CREATE TABLE one (a INT)")
	for _, x := range []struct {
		text string
		want api.Errno
	}{
		{"CREATE TABLE m (a INT)", api.ErrTwice}, {"CREATE TABLE m (a INT, a INT)", api.ErrTwice}, {"CREATE TABLE v (a INT, a INT)", api.ErrTwice}, {"CREATE TABLE v (a INT, CONSTRAINT f FOREIGN KEY (a) REFERENCES none (a))", api.ErrNone}, {"CREATE TABLE v (a INT, CONSTRAINT f CHECK (a))", api.ErrType}, {"CREATE TABLE v (a INT, CONSTRAINT f FOREIGN KEY (a) REFERENCES one (a))", api.ErrArg},
		{"DROP TABLE none", api.ErrNone}, {"DROP TABLE m", api.ErrUsed},
		{"ALTER TABLE none ADD COLUMN a INT", api.ErrNone}, {"ALTER TABLE m ADD COLUMN a INT", api.ErrTwice}, {"ALTER TABLE m ADD COLUMN d BOOL", api.ErrTwice}, {"ALTER TABLE full ADD COLUMN g INT", api.ErrLong}, {"ALTER TABLE full ADD COLUMN f INT", api.ErrTwice},
		{"ALTER TABLE none DROP COLUMN a", api.ErrNone}, {"ALTER TABLE m DROP COLUMN z", api.ErrNone}, {"ALTER TABLE one DROP COLUMN b", api.ErrNone}, {"ALTER TABLE one DROP COLUMN a", api.ErrUsed},
		{"ALTER TABLE m DROP COLUMN a", api.ErrUsed}, {"ALTER TABLE m DROP COLUMN b", api.ErrUsed}, {"ALTER TABLE m DROP COLUMN c", api.ErrUsed}, {"ALTER TABLE u DROP COLUMN x", api.ErrUsed}, {"ALTER TABLE u DROP COLUMN y", api.ErrUsed}, {"ALTER TABLE u DROP COLUMN z", api.ErrUsed}, {"ALTER TABLE s DROP COLUMN p", api.ErrUsed}, {"ALTER TABLE s DROP COLUMN q", api.ErrUsed},
		{"ALTER TABLE none RENAME TO none", api.ErrNone}, {"ALTER TABLE none RENAME TO v", api.ErrNone}, {"ALTER TABLE m RENAME TO m", api.ErrTwice}, {"ALTER TABLE m RENAME TO u", api.ErrTwice}, {"ALTER TABLE u RENAME TO m", api.ErrTwice}, {"ALTER TABLE s RENAME TO s", api.ErrTwice},
		{"ALTER TABLE none ADD CONSTRAINT n UNIQUE (a)", api.ErrNone}, {"ALTER TABLE m ADD CONSTRAINT k UNIQUE (a)", api.ErrTwice}, {"ALTER TABLE u ADD CONSTRAINT i UNIQUE (x)", api.ErrTwice}, {"ALTER TABLE u ADD CONSTRAINT j UNIQUE (none)", api.ErrTwice}, {"ALTER TABLE full ADD CONSTRAINT k6 UNIQUE (a)", api.ErrTwice}, {"ALTER TABLE full ADD CONSTRAINT k7 UNIQUE (a)", api.ErrFull}, {"ALTER TABLE full ADD CONSTRAINT k7 UNIQUE (z)", api.ErrFull},
		{"ALTER TABLE m ADD CONSTRAINT n UNIQUE (z)", api.ErrNone}, {"ALTER TABLE m ADD CONSTRAINT n CHECK (a)", api.ErrType}, {"ALTER TABLE m ADD CONSTRAINT n CHECK (a = $1)", api.ErrArg}, {"ALTER TABLE m ADD CONSTRAINT n FOREIGN KEY (a) REFERENCES none (a)", api.ErrNone}, {"ALTER TABLE m ADD CONSTRAINT n FOREIGN KEY (b) REFERENCES m (a)", api.ErrType}, {"ALTER TABLE m ADD CONSTRAINT n FOREIGN KEY (a) REFERENCES u (x)", api.ErrArg},
		{"ALTER TABLE none DROP CONSTRAINT k", api.ErrNone}, {"ALTER TABLE m DROP CONSTRAINT z", api.ErrNone}, {"ALTER TABLE u DROP CONSTRAINT i", api.ErrNone}, {"ALTER TABLE m DROP CONSTRAINT l", api.ErrUsed}, {"ALTER TABLE s DROP CONSTRAINT k", api.ErrUsed},
		{"CREATE INDEX a ON none (a)", api.ErrNone}, {"CREATE INDEX k ON m (a)", api.ErrTwice}, {"CREATE INDEX i ON u (x)", api.ErrTwice}, {"CREATE INDEX h ON u (none)", api.ErrTwice}, {"CREATE INDEX n ON u (x)", api.ErrFull}, {"CREATE INDEX n ON u (none)", api.ErrFull}, {"CREATE INDEX n ON m (none)", api.ErrNone}, {"CREATE INDEX n ON m (a, a)", api.ErrTwice}, {"CREATE INDEX n ON full (a, b, a)", api.ErrTwice},
		{"DROP INDEX i ON none", api.ErrNone}, {"DROP INDEX i ON m", api.ErrNone}, {"DROP INDEX f ON u", api.ErrNone}, {"DROP INDEX z ON u", api.ErrNone},
	} {
		mustRefuse(t, c, say(x.text), "root", api.MaxVersion, x.want)
		mustRefuse(t, c, say(x.text), "root", 0, x.want)
	}
}

// P17.3: a Unique may go where another one of just these columns keeps the key for those that refer to it.
func TestDropKey(t *testing.T) {
	c := after(t, catalog.New(), "CREATE TABLE m (a INT, b INT, CONSTRAINT k UNIQUE (a, b), CONSTRAINT l UNIQUE (b), CONSTRAINT f FOREIGN KEY (b) REFERENCES m (b))", "CREATE TABLE u (x INT, y INT, CONSTRAINT f FOREIGN KEY (x, y) REFERENCES m (b, a))")
	drop := func(name string) api.Stmt { return say("ALTER TABLE m DROP CONSTRAINT " + name) }
	for _, name := range names("k", "l") {
		mustRefuse(t, c, drop(name), "root", 9, api.ErrUsed)
	}
	more := after(t, c, "ALTER TABLE m ADD CONSTRAINT n UNIQUE (a)", "ALTER TABLE m ADD CONSTRAINT o CHECK (a = b)")
	for _, name := range names("k", "l") {
		mustRefuse(t, more, drop(name), "root", 9, api.ErrUsed)
	}
	for _, other := range names("n UNIQUE (b, a)", "n UNIQUE (a, b)") {
		more := after(t, c, "ALTER TABLE m ADD CONSTRAINT "+other)
		mustRefuse(t, more, drop("l"), "root", 9, api.ErrUsed)
		less := after(t, more, "ALTER TABLE m DROP CONSTRAINT k")
		mustRefuse(t, less, drop("n"), "root", 9, api.ErrUsed)
		less = after(t, more, "ALTER TABLE m DROP CONSTRAINT n")
		mustRefuse(t, less, drop("k"), "root", 9, api.ErrUsed)
		less = after(t, less, "ALTER TABLE u DROP CONSTRAINT f", "ALTER TABLE m DROP CONSTRAINT k", "ALTER TABLE m DROP CONSTRAINT f", "ALTER TABLE m DROP CONSTRAINT l")
		if s := showTable(less.Tables[0]); s != strconv.Itoa(less.Version)+" root: m (a INT, b INT)" {
			t.Error(s)
		}
	}
	after(t, c, "DROP TABLE u", "ALTER TABLE m DROP CONSTRAINT k")
	after(t, c, "ALTER TABLE m DROP CONSTRAINT f", "ALTER TABLE m DROP CONSTRAINT l")
}

// P17.3: what no text says: kinds that are none of these, and lists that are not just one.
func TestMakeOfOtherStatements(t *testing.T) {
	c := shop(t)
	col, key := api.Column{Name: "n", Type: api.Int}, api.Cons{Name: "n", Kind: api.Unique, Cols: names("a")}
	for _, kind := range []int{0, -1, api.CreateRole, api.DropRole, api.GrantPriv, api.Insert, api.Select, api.Deallocate, 23, most, least, 1<<32 + 1, 256 + 1} {
		for _, name := range names("m", "none", "") {
			mustRefuse(t, c, api.Stmt{Kind: kind, Table: name, Cols: []api.Column{col}, Cons: []api.Cons{key}}, "root", 9, api.ErrArg)
			mustRefuse(t, c, api.Stmt{Kind: kind, Table: name, Name: "k"}, "root", 0, api.ErrArg)
		}
	}
	for _, n := range []int{0, 2, 3, 7, 100} {
		for name, want := range map[string]api.Errno{"m": api.ErrArg, "none": api.ErrNone} {
			cols, cons := make([]api.Column, n), make([]api.Cons, n)
			for i := range n {
				cols[i], cons[i] = col, key
			}
			mustRefuse(t, c, api.Stmt{Kind: api.AddColumn, Table: name, Cols: cols, Cons: []api.Cons{key}}, "root", 0, want)
			mustRefuse(t, c, api.Stmt{Kind: api.AddCons, Table: name, Cons: cons, Cols: []api.Column{col}}, "root", 0, want)
		}
	}
	mustRefuse(t, c, api.Stmt{Kind: api.AddColumn, Table: "m", Cols: []api.Column{col}}, "root", 0, api.ErrVersion)
	mustRefuse(t, c, api.Stmt{Kind: api.AddCons, Table: "m", Cons: []api.Cons{key}}, "root", 0, api.ErrVersion)
	mustRefuse(t, c, api.Stmt{Kind: api.AddColumn, Table: "m", Cols: []api.Column{{Name: "N", Type: api.Int}}}, "root", 9, api.ErrName)
	mustRefuse(t, c, api.Stmt{Kind: api.AddColumn, Table: "m", Cols: []api.Column{{Name: "n"}}}, "root", 9, api.ErrArg)
	mustRefuse(t, c, api.Stmt{Kind: api.AddCons, Table: "m", Cons: []api.Cons{{Name: "n", Kind: 4}}}, "root", 9, api.ErrArg)
	mustRefuse(t, c, api.Stmt{Kind: api.AddCons, Table: "m", Cons: []api.Cons{{Name: "n", Kind: api.Check, Check: exp("a = $1")}}}, "root", 9, api.ErrArg)
	mustRefuse(t, c, api.Stmt{Kind: api.CreateTable, Table: "n"}, "root", 9, api.ErrLong)
	mustRefuse(t, c, api.Stmt{Kind: api.CreateTable, Table: "n", Cols: []api.Column{col}}, "Root", 9, api.ErrName)
	mustRefuse(t, c, api.Stmt{Kind: api.CreateTable, Table: "n", Cols: []api.Column{col}}, "", 9, api.ErrName)
	mustRefuse(t, c, api.Stmt{Kind: api.CreateTable, Table: "", Cols: []api.Column{col}}, "root", 9, api.ErrName)
	mustRefuse(t, c, api.Stmt{Kind: api.Rename, Table: "m", Name: "M"}, "root", 9, api.ErrName)
	mustRefuse(t, c, api.Stmt{Kind: api.Rename, Table: "s"}, "root", 9, api.ErrName)
	mustRefuse(t, c, api.Stmt{Kind: api.CreateIndex, Table: "m", Name: "I", Names: names("a")}, "root", 9, api.ErrName)
	mustRefuse(t, c, api.Stmt{Kind: api.CreateIndex, Table: "m", Name: "i"}, "root", 9, api.ErrLong)
	mustRefuse(t, c, api.Stmt{Kind: api.CreateIndex, Table: "m", Name: "i", Names: names("a", "b", "c", "d")}, "root", 9, api.ErrLong)
}

// P17.3: only the owner of a table that is made is asked.
func TestOwner(t *testing.T) {
	for _, text := range names("ALTER TABLE m ADD COLUMN e INT", "ALTER TABLE m RENAME TO n", "CREATE INDEX i ON m (a)") {
		next, err := catalog.Make(shop(t), say(text), "", 9)
		if err != api.OK || next.Tables[0].Owner != "root" {
			t.Errorf("%s is %d, of %q", text, err, next.Tables[0].Owner)
		}
	}
	if _, err := catalog.Make(shop(t), say("DROP TABLE u"), "A", 9); err != api.OK {
		t.Error(err)
	}
}

// P17.3: so many tables may be there, and no more; a name that is taken is told ahead.
func TestMakeOfMany(t *testing.T) {
	c := catalog.New()
	for i := range api.MaxTables {
		c = after(t, c, "CREATE TABLE t"+strconv.Itoa((i*5)%8)+" (a INT)")
	}
	mustRefuse(t, c, say("CREATE TABLE u (a INT)"), "root", 0, api.ErrFull)
	mustRefuse(t, c, say("CREATE TABLE u (a INT, a INT)"), "A", 9, api.ErrFull)
	mustRefuse(t, c, say("CREATE TABLE t3 (a INT)"), "root", 0, api.ErrTwice)
	after(t, c, "ALTER TABLE t3 RENAME TO a", "DROP TABLE t0", "CREATE TABLE t0 (a INT)")
	c.Tables = append(c.Tables, tab(1, "t9 (a INT)"), tab(1, "u (a INT)"))
	mustRefuse(t, c, say("CREATE TABLE v (a INT)"), "root", 9, api.ErrFull)
	after(t, c, "CREATE INDEX i ON u (a)", "DROP TABLE t9")
}

// P17.3: versions end where the greatest one is reached.
func TestVersions(t *testing.T) {
	for _, x := range []struct {
		version, top int
		want         api.Errno
	}{
		{5, 6, api.OK}, {5, 5, api.ErrVersion}, {5, 4, api.ErrVersion}, {5, -1, api.ErrVersion}, {5, least, api.ErrVersion}, {5, most, api.OK}, {0, 1, api.OK}, {0, 0, api.ErrVersion},
		{most, most, api.ErrVersion}, {most - 1, most, api.OK}, {most, 0, api.ErrVersion}, {api.MaxVersion, api.MaxVersion, api.ErrVersion}, {api.MaxVersion - 1, api.MaxVersion, api.OK},
	} {
		for _, text := range names("CREATE TABLE n (a INT)", "DROP TABLE u", "ALTER TABLE m ADD COLUMN e INT", "ALTER TABLE m DROP COLUMN d", "ALTER TABLE m RENAME TO o", "ALTER TABLE m ADD CONSTRAINT n UNIQUE (c)", "ALTER TABLE m DROP CONSTRAINT k", "CREATE INDEX n ON m (a)", "DROP INDEX i ON u") {
			c := shop(t)
			c.Version = x.version
			if x.want != api.OK {
				mustRefuse(t, c, say(text), "root", x.top, x.want)
				continue
			}
			next, err := catalog.Make(c, say(text), "root", x.top)
			if err != api.OK || next.Version != x.version+1 {
				t.Errorf("%s of version %d, at most %d, is %d, of version %d", text, x.version, x.top, err, next.Version)
			}
		}
	}
}

// P17.3: what a wrong catalog has may be too much, or missing, or named twice.
func TestMakeOfWrong(t *testing.T) {
	m := tab(1, "m (a INT, b INT, c INT)")
	for _, n := range []int{3, 4, 9} {
		m.Idx = make([]api.Index, n)
		mustRefuse(t, cat(1, m), say("CREATE INDEX i ON m (a)"), "root", 9, api.ErrFull)
	}
	m.Idx = make([]api.Index, 2)
	mustRefuse(t, cat(1, m), say("CREATE INDEX i ON m (a)"), "root", 9, api.ErrName)
	mustRefuse(t, cat(1, m), say("DROP INDEX i ON m"), "root", 9, api.ErrNone)
	m.Idx, m.Cons = nil, make([]api.Cons, 7)
	mustRefuse(t, cat(1, m), say("ALTER TABLE m ADD CONSTRAINT k UNIQUE (a)"), "root", 9, api.ErrFull)
	m.Cons = nil
	child := tab(1, "u (x INT, CONSTRAINT f FOREIGN KEY (x) REFERENCES m (b))")
	mustRefuse(t, cat(1, m, child), say("ALTER TABLE m DROP COLUMN b"), "root", 9, api.ErrUsed)
	after(t, cat(1, m, child), "ALTER TABLE m DROP COLUMN c")
	mustRefuse(t, cat(1, m, child), say("DROP TABLE m"), "root", 9, api.ErrUsed)
	mustRefuse(t, cat(1, m, child), say("CREATE INDEX i ON u (x)"), "root", 9, api.ErrArg)
	after(t, cat(1, m, child), "DROP TABLE u")
	child.Cons[0].Kind = api.Check
	after(t, cat(1, m, child), "ALTER TABLE m DROP COLUMN b", "DROP TABLE m")
	odd := tab(1, "u (x INT, CONSTRAINT f FOREIGN KEY (x) REFERENCES m (b))")
	odd.Cons = append(odd.Cons, api.Cons{Name: "g", Kind: api.Check, Table: "m"}, api.Cons{Kind: 4, Table: "m"}, api.Cons{Kind: api.Foreign, Table: "u"})
	if u := after(t, cat(1, m, odd), "ALTER TABLE m RENAME TO o").Tables[1]; u.Version != 2 || u.Cons[0].Table != "o" || u.Cons[1].Table != "m" || u.Cons[2].Table != "m" || u.Cons[3].Table != "u" {
		t.Errorf("a child is %+v", u)
	}
	m.Version = -1
	mustRefuse(t, cat(1, m), say("ALTER TABLE m DROP COLUMN b"), "root", 9, api.ErrArg)
	after(t, cat(1, m), "DROP TABLE m")
	self := tab(1, "s (x INT, y INT, CONSTRAINT f FOREIGN KEY (x) REFERENCES s (y))")
	mustRefuse(t, cat(1, self), say("ALTER TABLE s DROP COLUMN y"), "root", 9, api.ErrUsed)
	mustRefuse(t, cat(1, self), say("ALTER TABLE s RENAME TO t"), "root", 9, api.ErrArg)
	after(t, cat(1, self), "ALTER TABLE s ADD CONSTRAINT k UNIQUE (y)", "ALTER TABLE s RENAME TO t")
}

// P17.3, P17.5: whatever stands where nothing is asked for has no part in what is made.
func TestMakeOfWildFields(t *testing.T) {
	wild := api.Stmt{Role: "X", Names: names("a", "a"), Rows: [][]api.Expr{{{Kind: 99}}}, Where: exp("1"), Sets: make([]api.Set, 3), Order: make([]api.Order, 9), Limit: -7, Priv: 44, Option: true, Kids: make([]api.Stmt, 2)}
	for _, text := range names("CREATE TABLE n (a INT)", "DROP TABLE u", "ALTER TABLE m ADD COLUMN e INT", "ALTER TABLE m DROP COLUMN d", "ALTER TABLE m RENAME TO o", "ALTER TABLE m ADD CONSTRAINT n UNIQUE (c)", "ALTER TABLE m DROP CONSTRAINT k", "DROP INDEX i ON u") {
		s := say(text)
		odd := wild
		odd.Kind, odd.Table, odd.Name, odd.Cols, odd.Cons = s.Kind, s.Table, s.Name, s.Cols, s.Cons
		got, err := catalog.Make(shop(t), odd, "root", 9)
		if want := after(t, shop(t), text); err != api.OK || show(got) != show(want) {
			t.Errorf("%s with wild fields is %d, and makes\n%s", text, err, show(got))
		}
	}
}
