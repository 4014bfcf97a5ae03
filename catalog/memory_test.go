package catalog_test

import (
	"slices"
	"testing"

	"registrar/api"
	"registrar/catalog"
)

// roomy is a list with spare room that is filled with marks.
func roomy[T any](l []T, mark T) []T {
	room := append(slices.Clone(l), mark, mark, mark)
	return room[:len(l)]
}

// roomyCatalog is a catalog all of whose lists have spare room.
func roomyCatalog(c api.Catalog) api.Catalog {
	c.Tables = roomy(c.Tables, api.Table{Name: "mark"})
	c.Roles, c.Grants = roomy(c.Roles, api.Role{Name: "mark"}), roomy(c.Grants, api.Grant{Table: "mark"})
	for i := range c.Tables {
		t := &c.Tables[i]
		t.Cols, t.Cons, t.Idx = roomy(t.Cols, api.Column{Name: "mark"}), roomy(t.Cons, api.Cons{Name: "mark"}), roomy(t.Idx, api.Index{Name: "mark"})
		for j := range t.Cons {
			t.Cons[j].Cols, t.Cons[j].Refs = roomy(t.Cons[j].Cols, "mark"), roomy(t.Cons[j].Refs, "mark")
		}
		for j := range t.Idx {
			t.Idx[j].Cols = roomy(t.Idx[j].Cols, "mark")
		}
	}
	return c
}

// full is a list with its spare room.
func full[T any](l []T) []T { return l[:cap(l)] }

// marks counts the marks in the spare room of all of a catalog's lists.
func marks(c api.Catalog) int {
	n := 0
	count := func(name string) {
		if name == "mark" {
			n++
		}
	}
	for _, t := range full(c.Tables) {
		count(t.Name)
		for _, col := range full(t.Cols) {
			count(col.Name)
		}
		for _, k := range full(t.Cons) {
			count(k.Name)
			for _, name := range slices.Concat(full(k.Cols), full(k.Refs)) {
				count(name)
			}
		}
		for _, index := range full(t.Idx) {
			count(index.Name)
			for _, name := range full(index.Cols) {
				count(name)
			}
		}
	}
	for _, r := range full(c.Roles) {
		count(r.Name)
	}
	for _, g := range full(c.Grants) {
		count(g.Table)
	}
	return n
}

// every is a statement of each kind that the shop takes.
func every() []string {
	return names("CREATE TABLE n (a INT, CONSTRAINT g CHECK (a > 0), CONSTRAINT f FOREIGN KEY (a) REFERENCES m (a))", "DROP TABLE u", "ALTER TABLE m ADD COLUMN e INT", "ALTER TABLE m DROP COLUMN d", "ALTER TABLE m RENAME TO o", "ALTER TABLE s RENAME TO a",
		"ALTER TABLE m ADD CONSTRAINT n UNIQUE (c)", "ALTER TABLE m ADD CONSTRAINT n CHECK (d + 1 = a)", "ALTER TABLE s ADD CONSTRAINT n FOREIGN KEY (r, q) REFERENCES m (b, a)", "ALTER TABLE m DROP CONSTRAINT k", "ALTER TABLE u DROP CONSTRAINT f", "CREATE INDEX n ON m (a, c)", "DROP INDEX i ON u")
}

// P17.5: what is handed in stays, its spare room included, and what comes of one catalog in two ways is two.
func TestMakeLeavesRoom(t *testing.T) {
	for _, one := range every() {
		for _, two := range every() {
			c := roomyCatalog(shop(t))
			before, room := show(c), marks(c)
			wantOne, wantTwo := show(after(t, shop(t), one)), show(after(t, shop(t), two))
			a := after(t, c, one)
			b := after(t, c, two)
			if show(c) != before || marks(c) != room {
				t.Fatalf("%s and %s leave, of %d marks %d\n%s", one, two, room, marks(c), show(c))
			}
			if show(a) != wantOne || show(b) != wantTwo {
				t.Fatalf("%s and %s make\n%s\n%s", one, two, show(a), show(b))
			}
			then := show(after(t, shop(t), "CREATE INDEX last ON s (p)", one))
			if again := after(t, after(t, c, "CREATE INDEX last ON s (p)"), one); show(again) != then || show(a) != wantOne {
				t.Fatalf("%s makes behind an index\n%swant\n%s", one, show(again), then)
			}
		}
	}
}

// P17.5: a chain of catalogs, each of which stays as it was, whatever comes behind it.
func TestMakeLeavesEarlier(t *testing.T) {
	d := &dice{seed: 19}
	for range 60 {
		l := []api.Catalog{shop(t)}
		told := []string{show(l[0])}
		for range 40 {
			c := pick(d, l...)
			if next, err := catalog.Make(c, d.stmt(c), "root", 1000); err == api.OK {
				l, told = append(l, next), append(told, show(next))
			}
		}
		for i, c := range l {
			if show(c) != told[i] {
				t.Fatalf("catalog %d was\n%sand is\n%s", i, told[i], show(c))
			}
		}
	}
}

// P17.3: nothing of a statement is kept, and none of it is changed.
func TestMakeKeepsNothing(t *testing.T) {
	for _, text := range every() {
		s := say(text)
		s.Cols, s.Names, s.Cons = roomy(s.Cols, api.Column{Name: "mark"}), roomy(s.Names, "mark"), roomy(s.Cons, api.Cons{Name: "mark"})
		next, err := catalog.Make(shop(t), s, "root", 9)
		if err != api.OK {
			t.Fatal(text, err)
		}
		want := show(next)
		for _, col := range full(s.Cols)[len(s.Cols):] {
			if col.Name != "mark" {
				t.Errorf("%s leaves a column %s", text, col.Name)
			}
		}
		for i := range full(s.Cols) {
			full(s.Cols)[i].Name = "spoilt"
		}
		for i := range full(s.Names) {
			full(s.Names)[i] = "spoilt"
		}
		for i := range full(s.Cons) {
			k := &full(s.Cons)[i]
			for j := range k.Cols {
				k.Cols[j] = "spoilt"
			}
			for j := range k.Refs {
				k.Refs[j] = "spoilt"
			}
			for j := range k.Check.Kids {
				k.Check.Kids[j] = exp("spoilt")
			}
			k.Name = "spoilt"
		}
		if show(next) != want {
			t.Errorf("%s keeps what was handed in:\n%s", text, show(next))
		}
	}
}

// P17.1, P17.2: asking changes nothing, and names that are answered are their caller's.
func TestAskingLeavesAll(t *testing.T) {
	c := roomyCatalog(after(t, shop(t), "CREATE TABLE z (v INT, w TEXT, CONSTRAINT f FOREIGN KEY (v) REFERENCES s (p), CONSTRAINT g FOREIGN KEY (w, v) REFERENCES m (b, a))"))
	before, room := show(c), marks(c)
	for _, one := range c.Tables {
		for _, l := range [][]string{catalog.Parents(one), catalog.Children(c, one.Name)} {
			for i := range full(l) {
				full(l)[i] = "spoilt"
			}
		}
		if err := catalog.Sound(c, one); err != api.OK {
			t.Error(one.Name, err)
		}
	}
	if err := catalog.Check(c); err != api.OK || show(c) != before || marks(c) != room {
		t.Errorf("asking leaves, of %d marks %d, %d\n%s", room, marks(c), err, show(c))
	}
}

// P17.1, P17.2: what stands in the spare room of a list is not there.
func TestSpareRoomIsNotThere(t *testing.T) {
	c := shop(t)
	part := c
	part.Tables = c.Tables[:1]
	if _, ok := catalog.Find(part, "u"); ok {
		t.Error("a table of the spare room is found")
	}
	if l := catalog.Children(part, "m"); len(l) != 0 {
		t.Errorf("children of the spare room are %q", l)
	}
	u, _ := catalog.Find(c, "u")
	u.Cons = u.Cons[:0]
	if l := catalog.Parents(u); len(l) != 0 {
		t.Errorf("parents of the spare room are %q", l)
	}
	part.Version = 0
	part.Tables = c.Tables[:0]
	if err := catalog.Check(part); err != api.OK {
		t.Error(err)
	}
}
