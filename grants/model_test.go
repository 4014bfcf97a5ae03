package grants_test

import (
	"slices"
	"testing"

	"registrar/api"
	"registrar/catalog"
	"registrar/grants"
	"registrar/member"
)

// dice are numbers that are always the same ones.
type dice struct{ seed uint32 }

// below is the next number, from 0 to n - 1.
func (d *dice) below(n int) int {
	d.seed = d.seed*1664525 + 1013904223
	return int(d.seed>>8) % n
}

// pick is one of a list.
func pick[T any](d *dice, l ...T) T { return l[d.below(len(l))] }

// rarely is true once of so many times.
func (d *dice) rarely(n int) bool { return d.below(n) == 0 }

// walks asks whether a role is another one, by way of roles not yet seen.
func walks(l []api.Role, name, of string, seen ...string) bool {
	for _, r := range l {
		if r.Name != name {
			continue
		}
		if name == of {
			return true
		}
		for _, in := range r.In {
			if !slices.Contains(seen, in) && walks(l, in, of, append(seen, name)...) {
				return true
			}
		}
		return false
	}
	return false
}

// owner is whom a table belongs to.
func owner(c api.Catalog, table string) (string, bool) {
	for _, t := range c.Tables {
		if t.Name == table {
			return t.Owner, true
		}
	}
	return "", false
}

// owns asks whether a role is a table's owner.
func owns(c api.Catalog, role, table string) bool {
	name, there := owner(c, table)
	return there && walks(c.Roles, role, name)
}

// has asks whether a role is the To of one of a few grants of a privilege on a table, with Option where that is needed.
func has(c api.Catalog, among []api.Grant, role string, priv int, table string, isMore bool) bool {
	return slices.ContainsFunc(among, func(g api.Grant) bool {
		return g.Priv == priv && g.Table == table && (g.Option || !isMore) && walks(c.Roles, role, g.To)
	})
}

// standing are those grants of a catalog that hold, if just those of a few do.
func standing(c api.Catalog, few []api.Grant) []api.Grant {
	var l []api.Grant
	for _, g := range c.Grants {
		_, hasTable := owner(c, g.Table)
		if hasTable && walks(c.Roles, g.To, g.To) && (owns(c, g.By, g.Table) || has(c, few, g.By, g.Priv, g.Table, true)) {
			l = append(l, g)
		}
	}
	return l
}

// modelHeld are the fewest grants of which it is so that they are just those that hold, if they do: of all parts of the list.
func modelHeld(c api.Catalog) (fewest []api.Grant) {
	isFound := false
	for bits := range 1 << len(c.Grants) {
		var part []api.Grant
		for i, g := range c.Grants {
			if bits>>i&1 == 1 {
				part = append(part, g)
			}
		}
		if (!isFound || len(part) < len(fewest)) && slices.Equal(standing(c, part), part) {
			fewest, isFound = part, true
		}
	}
	return fewest
}

// wayHeld are the grants from which a way leads to an owner, without a grant that is on it twice.
func wayHeld(c api.Catalog) []api.Grant {
	there := standing(c, c.Grants)
	var reaches func(at int, seen []int) bool
	reaches = func(at int, seen []int) bool {
		g := there[at]
		if owns(c, g.By, g.Table) {
			return true
		}
		for i := range there {
			if !slices.Contains(seen, i) && has(c, there[i:i+1], g.By, g.Priv, g.Table, true) && reaches(i, append(slices.Clone(seen), i)) {
				return true
			}
		}
		return false
	}
	var l []api.Grant
	for i, g := range there {
		if reaches(i, []int{i}) {
			l = append(l, g)
		}
	}
	return l
}

// anyRoles are a few roles, mostly right ones.
func (d *dice) anyRoles(some []string) []api.Role {
	var l []api.Role
	for i, name := range some {
		r := api.Role{Name: name}
		for _, in := range some[i+1:] {
			if d.rarely(4) {
				r.In = append(r.In, in)
			}
		}
		if !d.rarely(6) {
			l = append(l, r)
		}
	}
	if d.rarely(5) && len(l) > 0 {
		at := d.below(len(l))
		l[at].In = append(l[at].In, pick(d, "a", "b", "none"))
	}
	if d.rarely(20) && len(l) > 0 {
		l = append(l, api.Role{Name: pick(d, some...), In: names(pick(d, some...))})
	}
	return l
}

// anyCatalog is a small catalog in which anything may stand.
func (d *dice) anyCatalog(most int) api.Catalog {
	some := names("a", "b", "c", "d", "e")
	c := api.Catalog{Version: d.below(5), Roles: d.anyRoles(some)}
	for _, name := range names("t", "u") {
		if !d.rarely(6) {
			c.Tables = append(c.Tables, api.Table{Name: name, Owner: pick(d, some...), Cols: []api.Column{{Name: "a", Type: api.Int}}})
		}
	}
	for range d.below(most) {
		g := api.Grant{By: pick(d, some...), To: pick(d, some...), Table: pick(d, "t", "t", "t", "u"), Priv: pick(d, 1, 1, 1, 1, 2), Option: !d.rarely(4)}
		if name, there := owner(c, g.Table); there && d.rarely(5) {
			g.By = name
		}
		c.Grants = append(c.Grants, g)
	}
	return c
}

// P19.1: what holds of any grants against both models, and who may and can by that.
func TestHeldOfAny(t *testing.T) {
	d := &dice{seed: 19}
	some, none, rings := 0, 0, 0
	for range 6000 {
		c := d.anyCatalog(9)
		want := modelHeld(c)
		if got := grants.Held(c); !slices.Equal(got, want) || !slices.Equal(got, wayHeld(c)) {
			t.Fatalf("of %s hold\n%s, want\n%s\n%s", show(c), showGrants(got), showGrants(want), showGrants(wayHeld(c)))
		}
		if len(want) > 2 {
			some++
		}
		if len(want) < len(c.Grants) {
			none++
		}
		if all := standing(c, c.Grants); len(all) > len(want) && slices.Equal(standing(c, all), all) {
			rings++
		}
		asked(t, c, want)
	}
	if some < 1000 || none < 1000 || rings < 200 {
		t.Errorf("of %d hold more than two, of %d not all, in %d some would hold over one another", some, none, rings)
	}
}

// asked holds what is asked of a catalog against the grants of it that hold.
func asked(t *testing.T, c api.Catalog, held []api.Grant) {
	t.Helper()
	trimmed := c
	trimmed.Grants = held
	if got := grants.Trim(c); show(got) != show(trimmed) {
		t.Fatalf("Trim of %s is %s", show(c), show(got))
	}
	roles := names("none")
	for _, r := range c.Roles {
		roles = append(roles, r.Name)
	}
	for _, role := range roles {
		for _, table := range names("t", "u", "v", "none") {
			isOwner := owns(c, role, table)
			if got := grants.Owns(c, role, table); got != isOwner {
				t.Fatalf("%s owns %s in %s: %t", role, table, show(c), got)
			}
			for priv := range 3 {
				may, can := isOwner || has(c, held, role, priv, table, false), isOwner || has(c, held, role, priv, table, true)
				if got := grants.May(c, role, priv, table); got != may {
					t.Fatalf("%s may %d on %s in %s: %t", role, priv, table, show(c), got)
				}
				if got := grants.Can(c, role, priv, table); got != can {
					t.Fatalf("%s can hand on %d on %s in %s: %t", role, priv, table, show(c), got)
				}
			}
		}
	}
}

// P19.1: many grants, against the way to an owner.
func TestHeldOfMany(t *testing.T) {
	d := &dice{seed: 7}
	for range 1500 {
		c := d.anyCatalog(16)
		if got, want := grants.Held(c), wayHeld(c); !slices.Equal(got, want) {
			t.Fatalf("of %s hold\n%s, want\n%s", show(c), showGrants(got), showGrants(want))
		}
	}
}

// fault is an error that is told where it is so.
type fault struct {
	is  bool
	err api.Errno
}

// first is the first error that is so.
func first(l ...fault) api.Errno {
	for _, f := range l {
		if f.is {
			return f.err
		}
	}
	return api.OK
}

// likes are the grants of a list that are one with another, but for Option, and the others.
func likes(l []api.Grant, g api.Grant) (same, rest []api.Grant) {
	for _, old := range l {
		if old.To == g.To && old.By == g.By && old.Table == g.Table && old.Priv == g.Priv {
			same = append(same, old)
		} else {
			rest = append(rest, old)
		}
	}
	return same, rest
}

// modelRoles are the roles of a catalog behind a statement, by the chapter's words.
func modelRoles(c api.Catalog, s api.Stmt, by string) (l []api.Role, err api.Errno) {
	isUsed := slices.ContainsFunc(c.Tables, func(t api.Table) bool { return t.Owner == s.Name })
	if err := first(fault{!walks(c.Roles, by, "root"), api.ErrDenied}, fault{s.Kind == api.DropRole && isUsed, api.ErrUsed}); err != api.OK {
		return nil, err
	}
	switch s.Kind {
	case api.CreateRole:
		l, err = member.Create(c.Roles, s.Name)
	case api.DropRole:
		l, err = member.Drop(c.Roles, s.Name)
	case api.GrantRole:
		l, err = member.Grant(c.Roles, s.Name, s.Role)
	case api.RevokeRole:
		l, err = member.Revoke(c.Roles, s.Name, s.Role)
	}
	return l, err
}

// modelGrants are the grants of a catalog, each of which is there once, behind a statement, by the chapter's words.
func modelGrants(c api.Catalog, s api.Stmt, by string) ([]api.Grant, api.Errno) {
	g := api.Grant{By: by, To: s.Role, Table: s.Table, Priv: s.Priv, Option: s.Option}
	same, rest := likes(c.Grants, g)
	if s.Kind == api.RevokePriv {
		if len(same) == 0 {
			return nil, api.ErrNone
		}
		return rest, api.OK
	}
	_, hasTable := owner(c, s.Table)
	can := owns(c, by, s.Table) || has(c, wayHeld(c), by, s.Priv, s.Table, true)
	err := first(
		fault{!hasTable || !walks(c.Roles, s.Role, s.Role), api.ErrNone}, fault{!can, api.ErrDenied}, fault{len(same) > 0 && (same[0].Option || !s.Option), api.ErrTwice},
		fault{len(same) == 0 && len(c.Grants) >= 40, api.ErrFull})
	if err != api.OK {
		return nil, err
	}
	if len(same) == 0 {
		return slices.Concat(c.Grants, []api.Grant{g}), api.OK
	}
	var l []api.Grant
	for _, old := range c.Grants {
		if old == same[0] {
			old = g
		}
		l = append(l, old)
	}
	return l, api.OK
}

// modelMake is Make by the chapter's words.
func modelMake(c api.Catalog, s api.Stmt, by string, most int) (api.Catalog, api.Errno) {
	next := c
	err := first(fault{!slices.Contains([]int{10, 11, 12, 13, 14, 15}, s.Kind), api.ErrArg}, fault{!walks(c.Roles, by, by), api.ErrNone})
	switch {
	case err != api.OK:
	case s.Kind < api.GrantPriv:
		next.Roles, err = modelRoles(c, s, by)
	default:
		next.Grants, err = modelGrants(c, s, by)
	}
	if err == api.OK && next.Version >= most {
		err = api.ErrVersion
	}
	if err != api.OK {
		return api.Catalog{}, err
	}
	next.Version++
	next.Grants = wayHeld(next)
	return next, api.OK
}

// order is a statement about roles or grants, mostly one that may be done, and who asks for it.
func (d *dice) order(c api.Catalog) (api.Stmt, string) {
	some := names("a", "b", "c", "d", "e", "f", "g", "h", "root", "none")
	for _, r := range c.Roles {
		some = append(some, r.Name, r.Name)
	}
	s := api.Stmt{Kind: pick(d, 10, 10, 10, 10, 11, 12, 12, 12, 13, 13, 14, 14, 14, 14, 14, 14, 14, 14, 14, 14, 14, 15, 15, 15), Table: pick(d, "t", "t", "t", "u", "v"), Name: pick(d, some...), Role: pick(d, some...), Priv: pick(d, 1, 1, 1, 2), Option: !d.rarely(3)}
	by := pick(d, some...)
	if s.Kind == api.CreateRole && !d.rarely(5) {
		s.Name = pick(d, some[:8]...)
	}
	if s.Kind < api.GrantPriv && !d.rarely(6) {
		by = "root"
	}
	if name, there := owner(c, s.Table); there && d.rarely(3) && s.Kind == api.GrantPriv {
		by = name
	}
	if len(c.Grants) > 0 && !d.rarely(3) && s.Kind >= api.GrantPriv {
		g := pick(d, c.Grants...)
		s.Table, s.Priv, by = g.Table, g.Priv, g.To
		if s.Kind == api.RevokePriv || d.rarely(6) {
			s.Role, by = g.To, g.By
		}
	}
	if d.rarely(60) {
		s.Kind = d.below(25) - 1
	}
	if d.rarely(60) {
		s.Name = pick(d, "", "A", "a-b")
	}
	return s, by
}

// grow is a catalog with a table more, or less, or with another name, where that may be.
func (d *dice) grow(c api.Catalog) api.Catalog {
	s := api.Stmt{Kind: pick(d, api.CreateTable, api.CreateTable, api.DropTable, api.Rename), Table: pick(d, "t", "u", "v"), Name: pick(d, "t", "u", "v")}
	by := pick(d, c.Roles...).Name
	if s.Kind == api.CreateTable {
		s.Name, s.Cols = "", []api.Column{{Name: "a", Type: api.Int}}
	}
	if next, err := catalog.Make(c, s, by, api.MaxVersion); err == api.OK {
		return next
	}
	return c
}

// P19.2, P19.3: runs of statements from a new catalog on, held against the model: each grant that is there holds, and who may is who owns, or has it by a way from an owner.
func TestRuns(t *testing.T) {
	d := &dice{seed: 3}
	met := map[[2]int]int{}
	long := 0
	for range 250 {
		c := catalog.New()
		for range 90 {
			if d.rarely(12) || len(c.Tables) == 0 {
				c = d.grow(c)
			}
			s, by := d.order(c)
			most := pick(d, c.Version, 1000, 1000, 1000, 1000, 1000, 1000, 1000)
			want, wantErr := modelMake(c, s, by, most)
			before := lines(c)
			got, err := grants.Make(c, s, by, most)
			if err != wantErr || lines(got) != lines(want) {
				t.Fatalf("%s: %+v of\n%s is %d, and makes\n%s, want %d,\n%s", by, s, before, err, lines(got), wantErr, lines(want))
			}
			if lines(c) != before {
				t.Fatalf("%s: %+v of\n%s leaves\n%s", by, s, before, lines(c))
			}
			met[[2]int{s.Kind, int(err)}]++
			if err == api.OK {
				c = got
				long = max(long, len(c.Grants))
			}
			if held := grants.Held(c); !slices.Equal(held, c.Grants) {
				t.Fatalf("in %s hold %s", lines(c), showGrants(held))
			}
			if d.rarely(8) {
				asked(t, c, c.Grants)
			}
		}
	}
	for _, x := range [][2]int{
		{10, 0}, {10, 4}, {10, 5}, {10, 18}, {10, 19}, {10, 36}, {10, 52}, {11, 0}, {11, 4}, {11, 34}, {11, 36}, {12, 0}, {12, 4}, {12, 19}, {12, 35}, {12, 36}, {13, 0}, {13, 4}, {13, 36},
		{14, 0}, {14, 4}, {14, 19}, {14, 36}, {14, 52}, {15, 0}, {15, 4}, {15, 52}, {-1, 2}, {9, 2}, {16, 2},
	} {
		if met[x] < 4 {
			t.Errorf("kind %d was answered %d only %d times", x[0], x[1], met[x])
		}
	}
	if long < 10 {
		t.Errorf("there were %d grants at most", long)
	}
}

// lines is the text of a catalog whose tables may have any versions.
func lines(c api.Catalog) string {
	text := show(c)
	for _, t := range c.Tables {
		text += " " + t.Name + " " + t.Owner + " " + string(rune('0'+t.Version%64))
	}
	return text
}

// P19.2: statements on catalogs in which anything stands, but no grant twice.
func TestMakeOfAny(t *testing.T) {
	d := &dice{seed: 5}
	met := map[api.Errno]int{}
	for range 40000 {
		c := d.anyCatalog(9)
		c.Grants = once(c.Grants)
		for i := range c.Roles {
			if c.Roles[i].Name == "e" && i == len(c.Roles)-1 && !d.rarely(3) {
				c.Roles[i].Name = "root"
			}
		}
		s, by := d.order(c)
		most := c.Version + d.below(4)
		want, wantErr := modelMake(c, s, by, most)
		got, err := grants.Make(c, s, by, most)
		if err != wantErr || show(got) != show(want) {
			t.Fatalf("%s: %+v of\n%s is %d, and makes\n%s, want %d,\n%s", by, s, show(c), err, show(got), wantErr, show(want))
		}
		met[err]++
	}
	for _, err := range []api.Errno{api.OK, api.ErrArg, api.ErrNone, api.ErrTwice, api.ErrUsed, api.ErrCycle, api.ErrDenied, api.ErrVersion} {
		if met[err] < 50 {
			t.Errorf("%d was answered only %d times", err, met[err])
		}
	}
}

// once are grants, of several like ones the first.
func once(l []api.Grant) []api.Grant {
	var out []api.Grant
	for _, g := range l {
		if same, _ := likes(out, g); len(same) == 0 {
			out = append(out, g)
		}
	}
	return out
}
