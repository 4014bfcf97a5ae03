package catalog_test

import (
	"slices"
	"strconv"
	"strings"
	"testing"

	"registrar/api"
	"registrar/catalog"
	"registrar/exparse"
	"registrar/parse"
	"registrar/stmt"
)

const (
	most  = 1<<63 - 1
	least = -1 << 63
)

func names(l ...string) []string { return l }

// say is the statement of a text.
func say(text string) api.Stmt {
	s, _, err := parse.Parse(text)
	if err != api.OK {
		panic(text + ": " + err.Error())
	}
	return s
}

// exp is the expression of a text.
func exp(text string) api.Expr {
	e, _, err := exparse.Parse(text)
	if err != api.OK {
		panic(text + ": " + err.Error())
	}
	return e
}

// tab is the table that a text after CREATE TABLE says, root's, of a version.
func tab(version int, text string) api.Table {
	s := say("CREATE TABLE " + text)
	return api.Table{Name: s.Table, Owner: "root", Version: version, Cols: s.Cols, Cons: s.Cons}
}

// cat is a catalog of tables of a version.
func cat(version int, tables ...api.Table) api.Catalog {
	return api.Catalog{Version: version, Tables: tables, Roles: []api.Role{{Name: "root"}}}
}

// after is what statements of root make of a catalog, all of which must be right.
func after(t testing.TB, c api.Catalog, texts ...string) api.Catalog {
	t.Helper()
	for _, text := range texts {
		next, err := catalog.Make(c, say(text), "root", api.MaxVersion)
		if err != api.OK {
			t.Fatalf("%s is %d", text, err)
		}
		c = next
	}
	return c
}

// show is all that a catalog is, as lines.
func show(c api.Catalog) string {
	var b strings.Builder
	b.WriteString(strconv.Itoa(c.Version) + "\n")
	for _, t := range c.Tables {
		b.WriteString(showTable(t) + "\n")
	}
	for _, r := range c.Roles {
		b.WriteString("role " + r.Name + " in " + strings.Join(r.In, ",") + "\n")
	}
	for _, g := range c.Grants {
		b.WriteString("grant " + stmt.Priv(g.Priv) + " on " + g.Table + " to " + g.To + " by " + g.By + " " + strconv.FormatBool(g.Option) + "\n")
	}
	return b.String()
}

// showTable is all that a table is, as a line.
func showTable(t api.Table) string {
	text, err := stmt.Print(api.Stmt{Kind: api.CreateTable, Table: t.Name, Cols: t.Cols, Cons: t.Cons})
	if err != api.OK {
		text = "ERROR " + strconv.Itoa(int(err))
	}
	text = strconv.Itoa(t.Version) + " " + t.Owner + ": " + strings.TrimPrefix(text, "CREATE TABLE ")
	for _, index := range t.Idx {
		text += " INDEX " + index.Name + " (" + strings.Join(index.Cols, ", ") + ")"
	}
	return text
}

// shop is a catalog with parents, children, one that is its own child, and all that a table may have.
func shop(t testing.TB) api.Catalog {
	c := after(t, catalog.New(),
		"CREATE TABLE m (a INT NOT NULL, b TEXT, c BOOL, d INT, CONSTRAINT k UNIQUE (a), CONSTRAINT l UNIQUE (b, a), CONSTRAINT g CHECK (a > 0 OR c))",
		"CREATE TABLE u (x INT, y TEXT, z INT, CONSTRAINT f FOREIGN KEY (y, x) REFERENCES m (b, a))",
		"CREATE TABLE s (p INT, q INT, r TEXT, CONSTRAINT k UNIQUE (p), CONSTRAINT f FOREIGN KEY (q) REFERENCES s (p))",
		"CREATE INDEX i ON u (z)",
		"CREATE INDEX j ON u (z, x)")
	c.Roles = append(c.Roles, api.Role{Name: "ann", In: names("root")})
	c.Grants = []api.Grant{
		{To: "ann", By: "root", Table: "m", Priv: api.PrivSelect, Option: true},
		{To: "ann", By: "root", Table: "u", Priv: api.PrivInsert},
		{To: "bob", By: "ann", Table: "m", Priv: api.PrivSelect},
		{To: "bob", By: "ann", Table: "none", Priv: api.PrivSelect},
	}
	return c
}

// P17.1: a new catalog has root alone, and each is a value of its own.
func TestNew(t *testing.T) {
	c := catalog.New()
	if s := show(c); s != "0\nrole root in \n" {
		t.Errorf("New is %q", s)
	}
	if err := catalog.Check(c); err != api.OK {
		t.Error(err)
	}
	c.Roles[0].Name = "x"
	if s := show(catalog.New()); s != "0\nrole root in \n" {
		t.Errorf("another New is %q", s)
	}
}

// P17.1: tables are found by their whole names alone.
func TestFind(t *testing.T) {
	c := shop(t)
	for _, name := range names("m", "s", "u") {
		if got, ok := catalog.Find(c, name); !ok || got.Name != name {
			t.Errorf("Find of %s is %s, %t", name, got.Name, ok)
		}
	}
	for _, name := range names("", "a", "l", "ma", "n", "t", "v", "M", "m ", "root") {
		if got, ok := catalog.Find(c, name); ok || showTable(got) != showTable(api.Table{}) {
			t.Errorf("Find of %q is %s, %t", name, showTable(got), ok)
		}
	}
	if got, ok := catalog.Find(c, "m"); !ok || showTable(got) != "1 root: m (a INT NOT NULL, b TEXT, c BOOL, d INT, CONSTRAINT k UNIQUE (a), CONSTRAINT l UNIQUE (b, a), CONSTRAINT g CHECK (a > 0 OR c))" {
		t.Errorf("Find of m is %s, %t", showTable(got), ok)
	}
	if got, ok := catalog.Find(catalog.New(), "m"); ok || got.Name != "" {
		t.Errorf("a new one has %s", got.Name)
	}
}

// P17.1: each of so many tables is found.
func TestFindOfMany(t *testing.T) {
	var c api.Catalog
	for i := range 20 {
		name := string(rune('b' + i))
		for _, there := range c.Tables {
			if got, ok := catalog.Find(c, there.Name); !ok || got.Name != there.Name {
				t.Fatalf("%s is not found among %d", there.Name, i)
			}
			if got, ok := catalog.Find(c, there.Name+"0"); ok || got.Name != "" {
				t.Fatalf("%s0 is found among %d", there.Name, i)
			}
		}
		c.Tables = append(c.Tables, api.Table{Name: name})
	}
}

// P17.1: children and parents, each once and in order, itself among them where it is one.
func TestChildrenAndParents(t *testing.T) {
	c := after(t, shop(t),
		"CREATE TABLE z (v INT, w INT, CONSTRAINT k UNIQUE (w), CONSTRAINT f FOREIGN KEY (v) REFERENCES s (p), CONSTRAINT g FOREIGN KEY (v) REFERENCES m (a), CONSTRAINT h FOREIGN KEY (w) REFERENCES s (p), CONSTRAINT i FOREIGN KEY (v) REFERENCES z (w))",
		"CREATE TABLE b (v INT, CONSTRAINT f FOREIGN KEY (v) REFERENCES m (a))")
	for _, x := range []struct {
		name              string
		children, parents []string
	}{
		{"b", nil, names("m")}, {"m", names("b", "u", "z"), nil}, {"s", names("s", "z"), names("s")}, {"u", nil, names("m")}, {"z", names("z"), names("m", "s", "z")}, {"none", nil, nil}, {"", nil, nil},
	} {
		if l := catalog.Children(c, x.name); !slices.Equal(l, x.children) {
			t.Errorf("children of %s are %q", x.name, l)
		}
		one, _ := catalog.Find(c, x.name)
		if l := catalog.Parents(one); !slices.Equal(l, x.parents) {
			t.Errorf("parents of %s are %q", x.name, l)
		}
	}
}

// P17.1: what refers is a Foreign alone, and to a table that need not be there; names rise though tables do not.
func TestChildrenOfWrong(t *testing.T) {
	key := api.Cons{Kind: api.Foreign, Table: "no"}
	c := api.Catalog{Tables: []api.Table{
		{Name: "c", Cons: []api.Cons{key, key}}, {Name: "b", Cons: []api.Cons{{Kind: api.Unique, Table: "no"}, {Kind: api.Check, Table: "no"}, {Kind: 4, Table: "no"}, {Table: "no"}}}, {Name: "a", Cons: []api.Cons{{Kind: api.Unique}, {Kind: api.Foreign, Table: "aa"}, key}},
	}}
	if l := catalog.Children(c, "no"); !slices.Equal(l, names("a", "c")) {
		t.Errorf("children are %q", l)
	}
	if l := catalog.Children(c, ""); len(l) != 0 {
		t.Errorf("children of none are %q", l)
	}
	for i, want := range [][]string{names("no"), nil, names("aa", "no")} {
		if l := catalog.Parents(c.Tables[i]); !slices.Equal(l, want) {
			t.Errorf("parents of %s are %q", c.Tables[i].Name, l)
		}
	}
}
