package catalog_test

import (
	"strconv"
	"testing"

	"registrar/api"
	"registrar/catalog"
)

// parents is a catalog of which one table has keys, and one has none.
func parents() api.Catalog {
	return cat(9,
		tab(1, "m (a INT, b TEXT, c BOOL, d INT, CONSTRAINT k UNIQUE (a), CONSTRAINT l UNIQUE (c, b, d), CONSTRAINT g CHECK (a = d), CONSTRAINT h FOREIGN KEY (b) REFERENCES m (b))"),
		tab(2, "n (a INT, b TEXT)"))
}

// P17.2: tables that may be beside others, and each error of a Foreign and a Check.
func TestSound(t *testing.T) {
	for _, x := range []struct {
		text string
		want api.Errno
	}{
		{"t (a INT)", api.OK},
		{"t (a INT, CONSTRAINT f FOREIGN KEY (a) REFERENCES m (a))", api.OK},
		{"t (x TEXT, y INT, z BOOL, CONSTRAINT f FOREIGN KEY (z, x, y) REFERENCES m (c, b, d))", api.OK},
		{"t (x TEXT, y INT, z BOOL, CONSTRAINT f FOREIGN KEY (y, z, x) REFERENCES m (d, c, b))", api.OK},
		{"t (x TEXT, y INT, z BOOL, CONSTRAINT f FOREIGN KEY (x, y, z) REFERENCES m (b, d, c))", api.OK},
		{"t (a INT, b INT, CONSTRAINT f FOREIGN KEY (b) REFERENCES t (a), CONSTRAINT k UNIQUE (a))", api.OK},
		{"t (a INT, CONSTRAINT k UNIQUE (a), CONSTRAINT f FOREIGN KEY (a) REFERENCES t (a))", api.OK},
		{"t (a INT, b BOOL, CONSTRAINT c CHECK (b), CONSTRAINT d CHECK (a + 1 > 2), CONSTRAINT e CHECK (NULL))", api.OK},

		{"t (a INT, CONSTRAINT f FOREIGN KEY (a) REFERENCES none (a))", api.ErrNone},
		{"t (a INT, CONSTRAINT f FOREIGN KEY (a) REFERENCES l (a))", api.ErrNone},
		{"t (a INT, CONSTRAINT f FOREIGN KEY (a) REFERENCES m (z))", api.ErrNone},
		{"t (a INT, b TEXT, c BOOL, CONSTRAINT f FOREIGN KEY (a, b, c) REFERENCES m (a, b, z))", api.ErrNone},
		{"t (a INT, b TEXT, c BOOL, CONSTRAINT f FOREIGN KEY (c, b, a) REFERENCES m (a, b, z))", api.ErrNone},
		{"t (a INT, b INT, CONSTRAINT k UNIQUE (a), CONSTRAINT f FOREIGN KEY (b) REFERENCES t (c))", api.ErrNone},
		{"t (a BOOL, CONSTRAINT f FOREIGN KEY (a) REFERENCES m (a))", api.ErrType},
		{"t (a BOOL, CONSTRAINT f FOREIGN KEY (a) REFERENCES m (b))", api.ErrType},
		{"t (x TEXT, y INT, z BOOL, CONSTRAINT f FOREIGN KEY (x, y, z) REFERENCES m (c, b, d))", api.ErrType},
		{"t (x TEXT, y INT, z BOOL, CONSTRAINT f FOREIGN KEY (z, x, z2) REFERENCES m (c, b, d), CONSTRAINT k UNIQUE (x))", api.ErrNone},
		{"t (x TEXT, y TEXT, z BOOL, CONSTRAINT f FOREIGN KEY (z, x, y) REFERENCES m (c, b, d))", api.ErrType},
		{"t (a INT, b TEXT, CONSTRAINT k UNIQUE (a), CONSTRAINT f FOREIGN KEY (b) REFERENCES t (a))", api.ErrType},
		{"t (a INT, CONSTRAINT f FOREIGN KEY (a) REFERENCES n (a))", api.ErrArg},
		{"t (a INT, CONSTRAINT f FOREIGN KEY (a) REFERENCES m (d))", api.ErrArg},
		{"t (a TEXT, CONSTRAINT f FOREIGN KEY (a) REFERENCES m (b))", api.ErrArg},
		{"t (a BOOL, b TEXT, CONSTRAINT f FOREIGN KEY (a, b) REFERENCES m (c, b))", api.ErrArg},
		{"t (a INT, b TEXT, c BOOL, CONSTRAINT f FOREIGN KEY (c, b, a) REFERENCES m (c, b, a))", api.ErrArg},
		{"t (a INT, b INT, CONSTRAINT f FOREIGN KEY (b) REFERENCES t (a))", api.ErrArg},
		{"t (a INT, b INT, CONSTRAINT k UNIQUE (b), CONSTRAINT f FOREIGN KEY (b) REFERENCES t (a))", api.ErrArg},
		{"t (a INT, b INT, CONSTRAINT k UNIQUE (a, b), CONSTRAINT f FOREIGN KEY (b) REFERENCES t (a))", api.ErrArg},

		{"t (a INT, CONSTRAINT c CHECK (a))", api.ErrType},
		{"t (a INT, CONSTRAINT c CHECK (a = 'x'))", api.ErrType},
		{"t (a TEXT, CONSTRAINT c CHECK (NOT a))", api.ErrType},
		{"t (a INT, CONSTRAINT c CHECK (b))", api.ErrNone},
		{"t (a INT, CONSTRAINT c CHECK ($1))", api.ErrArg},
		{"t (a INT, a INT)", api.ErrTwice},

		// A table is its own parent ahead of one of that name.
		{"m (x TEXT, CONSTRAINT k UNIQUE (x), CONSTRAINT f FOREIGN KEY (x) REFERENCES m (x))", api.OK},
		{"m (x INT, CONSTRAINT f FOREIGN KEY (x) REFERENCES m (a))", api.ErrNone},
		{"m (a INT, CONSTRAINT f FOREIGN KEY (a) REFERENCES m (a))", api.ErrArg},

		// The first constraint with an error tells it, but that of table.Check comes ahead.
		{"t (a INT, CONSTRAINT c CHECK (a), CONSTRAINT f FOREIGN KEY (a) REFERENCES none (a))", api.ErrType},
		{"t (a INT, CONSTRAINT f FOREIGN KEY (a) REFERENCES none (a), CONSTRAINT c CHECK (a))", api.ErrNone},
		{"t (a INT, CONSTRAINT f FOREIGN KEY (a) REFERENCES n (a), CONSTRAINT c CHECK (a))", api.ErrArg},
		{"t (a INT, CONSTRAINT f FOREIGN KEY (a) REFERENCES m (b), CONSTRAINT g FOREIGN KEY (a) REFERENCES n (a))", api.ErrType},
		{"t (a INT, CONSTRAINT e FOREIGN KEY (a) REFERENCES m (a), CONSTRAINT g FOREIGN KEY (a) REFERENCES n (a))", api.ErrArg},
		{"t (a INT, CONSTRAINT c CHECK (a), CONSTRAINT k UNIQUE (b))", api.ErrNone},
		{"t (a INT, CONSTRAINT c CHECK (a), CONSTRAINT c UNIQUE (a))", api.ErrTwice},
	} {
		if err := catalog.Sound(parents(), tab(0, x.text)); err != x.want {
			t.Errorf("Sound of %s is %d, want %d", x.text, err, x.want)
		}
	}
}

// P17.2: what no text says: errors of table.Check, and keys that are none.
func TestSoundOfOthers(t *testing.T) {
	right := tab(0, "t (a INT, b INT, CONSTRAINT f FOREIGN KEY (a) REFERENCES m (a))")
	for i, x := range []struct {
		want api.Errno
		do   func(c *api.Catalog, t *api.Table)
	}{
		{api.OK, func(c *api.Catalog, t *api.Table) {}},
		{api.OK, func(c *api.Catalog, t *api.Table) { t.Version = most }},
		{api.OK, func(c *api.Catalog, t *api.Table) { c.Version = least }},
		{api.OK, func(c *api.Catalog, t *api.Table) { c.Tables[0].Version, c.Tables[0].Owner = -1, "" }},
		{api.OK, func(c *api.Catalog, t *api.Table) { c.Tables[1].Cols = nil }},
		{api.OK, func(c *api.Catalog, t *api.Table) { c.Roles, c.Grants = nil, make([]api.Grant, 100) }},
		{api.ErrName, func(c *api.Catalog, t *api.Table) { t.Owner = "" }},
		{api.ErrName, func(c *api.Catalog, t *api.Table) { t.Name = "T" }},
		{api.ErrArg, func(c *api.Catalog, t *api.Table) { t.Version = -1 }},
		{api.ErrLong, func(c *api.Catalog, t *api.Table) { t.Cols = nil }},
		{api.ErrNone, func(c *api.Catalog, t *api.Table) { t.Cons[0].Cols = names("z") }},
		{api.ErrNone, func(c *api.Catalog, t *api.Table) { c.Tables = c.Tables[:0] }},
		{api.ErrNone, func(c *api.Catalog, t *api.Table) { c.Tables = c.Tables[1:] }},
		{api.ErrArg, func(c *api.Catalog, t *api.Table) { c.Tables[0].Cons = c.Tables[0].Cons[:0] }},
		{api.ErrArg, func(c *api.Catalog, t *api.Table) { c.Tables[0].Cons[0].Kind = api.Foreign }},
		{api.ErrArg, func(c *api.Catalog, t *api.Table) { c.Tables[0].Cons[0].Kind = api.Check }},
		{api.ErrArg, func(c *api.Catalog, t *api.Table) { c.Tables[0].Cons[0].Cols = names("a", "a") }},
		{api.ErrArg, func(c *api.Catalog, t *api.Table) { c.Tables[0].Cons[0].Cols = nil }},
		{api.ErrType, func(c *api.Catalog, t *api.Table) { c.Tables[0].Cols[0].Type = 9 }},
		{api.ErrNone, func(c *api.Catalog, t *api.Table) { c.Tables[0].Cols[0].Name = "y" }},
		{api.ErrArg, func(c *api.Catalog, t *api.Table) { t.Cons[0].Refs = names("a", "a") }},
	} {
		c, one := parents(), tab(0, "t (a INT, b INT, CONSTRAINT f FOREIGN KEY (a) REFERENCES m (a))")
		x.do(&c, &one)
		want := x.want
		if len(one.Cons[0].Refs) == 2 {
			want = api.ErrTwice
		}
		if err := catalog.Sound(c, one); err != want {
			t.Errorf("Sound of case %d is %d, want %d", i, err, want)
		}
	}
	if err := catalog.Sound(api.Catalog{}, right); err != api.ErrNone {
		t.Error(err)
	}
}

// P17.2: of several columns of one name in a parent the first counts.
func TestSoundOfTwins(t *testing.T) {
	twins := api.Table{Name: "m", Cols: []api.Column{{Name: "b", Type: api.Bool}, {Name: "a", Type: api.Int}, {Name: "a", Type: api.Text}}, Cons: []api.Cons{{Kind: api.Unique, Cols: names("a")}}}
	for text, want := range map[string]api.Errno{"INT": api.OK, "TEXT": api.ErrType, "BOOL": api.ErrType} {
		if err := catalog.Sound(cat(0, twins), tab(0, "t (a "+text+", CONSTRAINT f FOREIGN KEY (a) REFERENCES m (a))")); err != want {
			t.Errorf("of %s it is %d", text, err)
		}
	}
}

// P17.4: catalogs that may be.
func TestCheckOfRight(t *testing.T) {
	var eight []api.Table
	for i := range 8 {
		eight = append(eight, tab(i, "t"+strconv.Itoa(i)+" (a INT)"))
	}
	circle := []api.Table{tab(2, "a (x INT, CONSTRAINT k UNIQUE (x), CONSTRAINT f FOREIGN KEY (x) REFERENCES b (x))"), tab(1, "b (x INT, CONSTRAINT k UNIQUE (x), CONSTRAINT f FOREIGN KEY (x) REFERENCES a (x))")}
	for i, c := range []api.Catalog{
		{}, catalog.New(), shop(t), cat(0), cat(most), cat(7, eight...), cat(8, eight...), cat(2, circle...), cat(0, tab(0, "a (x INT)")),
		{Roles: make([]api.Role, 100), Grants: make([]api.Grant, 100)}, {Version: 3, Tables: []api.Table{tab(3, "a (x INT)"), tab(3, "aa (x INT)"), tab(1, "b (x INT)")}},
	} {
		if err := catalog.Check(c); err != api.OK {
			t.Errorf("catalog %d is %d", i, err)
		}
	}
}

// P17.4: each error, ahead of those that come behind it.
func TestCheckOfFaults(t *testing.T) {
	many := func(n int) []api.Table {
		var l []api.Table
		for i := range n {
			l = append(l, tab(1, "t"+strconv.Itoa(10+i)+" (a INT)"))
		}
		return l
	}
	swapped := many(9)
	swapped[7], swapped[8] = swapped[8], swapped[7]
	late := many(9)
	late[8].Version = 2
	nine := many(9)
	nine[0].Cols = nil
	unsound, typeless := tab(1, "a (x INT, CONSTRAINT f FOREIGN KEY (x) REFERENCES b (x))"), tab(1, "a (x INT, CONSTRAINT c CHECK (x))")
	for i, x := range []struct {
		c    api.Catalog
		want api.Errno
	}{
		{cat(-1), api.ErrArg}, {cat(least), api.ErrArg}, {cat(-1, many(9)...), api.ErrArg},
		{cat(1, tab(1, "b (x INT)"), tab(1, "a (x INT)")), api.ErrArg}, {cat(1, tab(1, "a (x INT)"), tab(1, "a (x INT)")), api.ErrArg}, {cat(1, tab(1, "a (x INT)"), tab(1, "c (x INT)"), tab(1, "b (x INT)")), api.ErrArg}, {cat(1, swapped...), api.ErrArg},
		{cat(1, tab(2, "a (x INT)")), api.ErrArg}, {cat(0, tab(1, "a (x INT)")), api.ErrArg}, {cat(1, tab(1, "a (x INT)"), tab(most, "b (x INT)")), api.ErrArg}, {cat(1, late...), api.ErrArg}, {cat(1, tab(2, "a (x INT)"), unsound), api.ErrArg},
		{cat(1, many(9)...), api.ErrFull}, {cat(1, many(30)...), api.ErrFull}, {cat(1, nine...), api.ErrFull},
		{cat(1, tab(-1, "a (x INT)")), api.ErrArg}, {cat(1, unsound), api.ErrNone}, {cat(1, unsound, tab(1, "b (x INT)")), api.ErrArg}, {cat(1, unsound, tab(1, "b (x BOOL)")), api.ErrType}, {cat(1, unsound, tab(1, "c (x INT, x INT)")), api.ErrNone},
		{cat(1, typeless, tab(1, "b (x INT, x INT)")), api.ErrType}, {cat(1, tab(1, "a (x INT, x INT)"), tab(1, "b (x INT, CONSTRAINT c CHECK (x))")), api.ErrTwice}, {cat(1, tab(1, "a (x INT)"), tab(1, "b (x INT, CONSTRAINT c CHECK (x))")), api.ErrType},
		{cat(1, api.Table{Name: "", Owner: "root", Cols: []api.Column{{Name: "a", Type: api.Int}}}), api.ErrName},
	} {
		if err := catalog.Check(x.c); err != x.want {
			t.Errorf("catalog %d is %d, want %d", i, err, x.want)
		}
	}
}
