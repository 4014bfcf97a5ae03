package grants_test

import (
	"slices"
	"strconv"
	"strings"
	"testing"

	"registrar/api"
	"registrar/catalog"
	"registrar/grants"
	"registrar/stmt"
)

func names(l ...string) []string { return l }

// tables are those of a text: words with a blank between, each a table, a colon, and its owner.
func tables(text string) []api.Table {
	var l []api.Table
	for word := range strings.FieldsSeq(text) {
		name, owner, _ := strings.Cut(word, ":")
		l = append(l, api.Table{Name: name, Owner: owner, Cols: []api.Column{{Name: "a", Type: api.Int}}})
	}
	return l
}

// roles are those of a text: words with a blank between, each a role, behind a colon the roles that it is in, with commas between.
func roles(text string) []api.Role {
	var l []api.Role
	for word := range strings.FieldsSeq(text) {
		name, in, _ := strings.Cut(word, ":")
		r := api.Role{Name: name}
		if in != "" {
			r.In = strings.Split(in, ",")
		}
		l = append(l, r)
	}
	return l
}

// list are the grants of a text: words with a blank between, each By, >, To, a point, the privilege's number, a point, the table, and a + if there is Option.
func list(text string) []api.Grant {
	var l []api.Grant
	for word := range strings.FieldsSeq(text) {
		word, isMore := strings.CutSuffix(word, "+")
		by, rest, _ := strings.Cut(word, ">")
		parts := strings.Split(rest, ".")
		priv, err := strconv.Atoi(parts[1])
		if err != nil {
			panic(word)
		}
		l = append(l, api.Grant{By: by, To: parts[0], Priv: priv, Table: parts[2], Option: isMore})
	}
	return l
}

// world is the catalog of a text: a version, tables, roles and grants, with a stroke between each two.
func world(text string) api.Catalog {
	parts := strings.Split(text, "|")
	version, err := strconv.Atoi(strings.TrimSpace(parts[0]))
	if err != nil || len(parts) != 4 {
		panic(text)
	}
	return api.Catalog{Version: version, Tables: tables(parts[1]), Roles: roles(parts[2]), Grants: list(parts[3])}
}

// showGrants is the text of grants.
func showGrants(l []api.Grant) string {
	var words []string
	for _, g := range l {
		word := g.By + ">" + g.To + "." + strconv.Itoa(g.Priv) + "." + g.Table
		if g.Option {
			word += "+"
		}
		words = append(words, word)
	}
	return strings.Join(words, " ")
}

// showTables is the text of tables; one that is otherwise than tables makes them is told whole.
func showTables(l []api.Table) string {
	var words []string
	for _, t := range l {
		word := t.Name + ":" + t.Owner
		whole, err := stmt.Print(api.Stmt{Kind: api.CreateTable, Table: "t", Cols: t.Cols, Cons: t.Cons})
		if err != api.OK || whole != "CREATE TABLE t (a INT)" || t.Version != 0 || len(t.Idx) > 0 {
			word += "!" + strconv.Itoa(t.Version) + whole + err.Error()
		}
		words = append(words, word)
	}
	return strings.Join(words, " ")
}

// showRoles is the text of roles.
func showRoles(l []api.Role) string {
	var words []string
	for _, r := range l {
		word := r.Name
		if len(r.In) > 0 {
			word += ":" + strings.Join(r.In, ",")
		}
		words = append(words, word)
	}
	return strings.Join(words, " ")
}

// show is the text of a catalog.
func show(c api.Catalog) string {
	return strings.Join(names(strconv.Itoa(c.Version), showTables(c.Tables), showRoles(c.Roles), showGrants(c.Grants)), "|")
}

// folk are the roles of most tests: bob is in crew, which is in staff, and tom is in root.
const folk = "ann bob:crew crew:staff cy dee root staff tom:root"

// P19.1: who is the owner owns, by way of whatever roles, and nobody else does.
func TestOwns(t *testing.T) {
	c := world("0|a:ann b:crew c:staff d:gone e:root|" + folk + "|root>cy.1.a+ ann>cy.1.a+ ann>cy.2.a+ ann>cy.3.a+ ann>cy.4.a+")
	owners := map[string][]string{"a": {"ann"}, "b": {"bob", "crew"}, "c": {"bob", "crew", "staff"}, "d": nil, "e": {"root", "tom"}, "none": nil, "": nil, "A": nil}
	for table, l := range owners {
		for _, role := range names("ann", "bob", "crew", "cy", "dee", "root", "staff", "tom", "gone", "", "ANN") {
			if got := grants.Owns(c, role, table); got != slices.Contains(l, role) {
				t.Errorf("%s owns %s: %t", role, table, got)
			}
		}
	}
	if grants.Owns(api.Catalog{}, "root", "t") || grants.Owns(catalog.New(), "root", "") {
		t.Error("somebody owns what is not there")
	}
	if c := (api.Catalog{Tables: []api.Table{{}}, Roles: []api.Role{{}}}); !grants.Owns(c, "", "") {
		t.Error("a role without a name owns a table of no name")
	}
	if c := world("0|t:a|a:b b:c c:a d:a|"); !grants.Owns(c, "d", "t") || !grants.Owns(c, "b", "t") {
		t.Error("roles in a ring are one another")
	}
}

// holding are catalogs' tables and roles, grants, and those of them that hold.
var holding = []struct{ base, all, held string }{
	{"t:ann|" + folk, "", ""},
	{"t:ann|" + folk, "ann>bob.1.t", "ann>bob.1.t"},
	{"t:ann|" + folk, "ann>bob.1.t+", "ann>bob.1.t+"},
	{"t:ann|" + folk, "ann>ann.1.t", "ann>ann.1.t"},
	{"t:ann|" + folk, "root>bob.1.t+ tom>bob.1.t+", ""},
	{"t:root|" + folk, "root>bob.1.t+ tom>cy.1.t", "root>bob.1.t+ tom>cy.1.t"},
	{"t:ann|" + folk, "ann>bob.1.t+ bob>cy.1.t", "ann>bob.1.t+ bob>cy.1.t"},
	{"t:ann|" + folk, "bob>cy.1.t ann>bob.1.t+", "bob>cy.1.t ann>bob.1.t+"},
	{"t:ann|" + folk, "ann>bob.1.t bob>cy.1.t", "ann>bob.1.t"},
	{"t:ann|" + folk, "ann>bob.1.t+ bob>cy.2.t", "ann>bob.1.t+"},
	{"t:ann u:ann|" + folk, "ann>bob.1.t+ bob>cy.1.u", "ann>bob.1.t+"},
	{"t:ann u:ann|" + folk, "ann>bob.1.t+ ann>bob.2.u+ bob>cy.2.t bob>cy.1.u", "ann>bob.1.t+ ann>bob.2.u+"},
	{"t:ann u:ann|" + folk, "ann>bob.1.t+ ann>bob.2.u+ bob>cy.1.t bob>cy.2.u", "ann>bob.1.t+ ann>bob.2.u+ bob>cy.1.t bob>cy.2.u"},
	{"t:ann|" + folk, "ann>bob.1.none ann>bob.1. ann>bob.1.T ann>none.1.t none>bob.1.t >bob.1.t ann>.1.t", ""},
	{"t:none|" + folk, "none>bob.1.t+ bob>cy.1.t ann>cy.1.t root>cy.1.t", ""},
	{"t:ann|" + folk, "ann>none.1.t+ none>cy.1.t", ""},
	{"t:ann|" + folk, "bob>cy.1.t+ cy>bob.1.t+", ""},
	{"t:ann|" + folk, "bob>bob.1.t+ cy>dee.1.t+ dee>cy.1.t+", ""},
	{"t:ann|" + folk, "bob>cy.1.t+ cy>dee.1.t+ dee>bob.1.t+", ""},
	{"t:ann|" + folk, "bob>cy.1.t+ cy>dee.1.t+ dee>bob.1.t+ ann>dee.1.t+", "bob>cy.1.t+ cy>dee.1.t+ dee>bob.1.t+ ann>dee.1.t+"},
	{"t:ann|" + folk, "bob>cy.1.t+ cy>dee.1.t+ dee>bob.1.t+ ann>dee.1.t", "ann>dee.1.t"},
	{"t:ann|" + folk, "bob>bob.1.t+ ann>bob.1.t", "ann>bob.1.t"},
	{"t:ann|" + folk, "bob>bob.1.t+ ann>bob.1.t+", "bob>bob.1.t+ ann>bob.1.t+"},
	{"t:ann|" + folk, "ann>staff.1.t+ bob>cy.1.t+ crew>dee.1.t tom>dee.1.t", "ann>staff.1.t+ bob>cy.1.t+ crew>dee.1.t"},
	{"t:ann|" + folk, "ann>bob.1.t+ crew>cy.1.t staff>cy.1.t", "ann>bob.1.t+"},
	{"t:ann|" + folk, "ann>crew.1.t+ crew>cy.1.t staff>cy.1.t bob>cy.1.t", "ann>crew.1.t+ crew>cy.1.t bob>cy.1.t"},
	{"t:staff|" + folk, "bob>cy.1.t+ crew>cy.2.t staff>cy.3.t cy>dee.1.t cy>dee.2.t", "bob>cy.1.t+ crew>cy.2.t staff>cy.3.t cy>dee.1.t"},
	{"t:ann|" + folk, "ann>cy.0.t+ cy>dee.0.t ann>cy.-7.t ann>dee.99.t+ dee>cy.99.t dee>cy.98.t", "ann>cy.0.t+ cy>dee.0.t ann>cy.-7.t ann>dee.99.t+ dee>cy.99.t"},
	{"t:ann|" + folk, "ann>cy.1.t ann>cy.1.t ann>cy.1.t+ bob>cy.1.t ann>cy.1.t", "ann>cy.1.t ann>cy.1.t ann>cy.1.t+ ann>cy.1.t"},
	{"t:ann|" + folk, "dee>bob.1.t cy>dee.1.t+ bob>cy.1.t+ ann>bob.1.t+ ann>cy.2.t+ cy>bob.2.t", "dee>bob.1.t cy>dee.1.t+ bob>cy.1.t+ ann>bob.1.t+ ann>cy.2.t+ cy>bob.2.t"},
	{"t:ann|" + folk, "dee>bob.1.t cy>dee.1.t+ bob>cy.1.t ann>bob.1.t+", "bob>cy.1.t ann>bob.1.t+"},
	{"t:ann|a b ann", "ann>a.1.t+ a>b.1.t+ b>a.1.t+ a>ann.1.t+ ann>b.1.t", "ann>a.1.t+ a>b.1.t+ b>a.1.t+ a>ann.1.t+ ann>b.1.t"},
	{"t:b|a:b b:a c", "a>c.1.t+ c>a.1.t b>c.1.t", "a>c.1.t+ c>a.1.t b>c.1.t"},
	{"|" + folk, "ann>bob.1.t", ""},
	{"t:ann|", "ann>bob.1.t", ""},
}

// P19.1: the fewest grants whose tables and Tos are there, and whose Bys can hand on what they give; none by itself alone.
func TestHeld(t *testing.T) {
	for _, one := range holding {
		c := world("7|" + one.base + "|" + one.all)
		if got := showGrants(grants.Held(c)); got != one.held {
			t.Errorf("of %s, %s hold %s, not %s", one.base, one.all, got, one.held)
		}
		if got := show(grants.Trim(c)); got != "7|"+one.base+"|"+one.held {
			t.Errorf("Trim of %s is %s", show(c), got)
		}
		if got := show(grants.Trim(grants.Trim(c))); got != "7|"+one.base+"|"+one.held {
			t.Errorf("Trim of Trim of %s is %s", show(c), got)
		}
	}
}

// P19.1: what is no list, and versions and tables of all kinds.
func TestTrimKeepsTheRest(t *testing.T) {
	for _, version := range []int{-1 << 63, -1, 0, 1, api.MaxVersion, 1<<63 - 1} {
		c := api.Catalog{Version: version, Grants: list("ann>bob.1.t")}
		if got := grants.Trim(c); got.Version != version || len(got.Grants)+len(got.Tables)+len(got.Roles) > 0 {
			t.Error(version, got)
		}
	}
	if l := grants.Held(api.Catalog{}); len(l) > 0 {
		t.Error(l)
	}
	c := world("3|b:ann a:ann b:root|z:y,y a a:z root|root>a.1.b")
	if got := grants.Trim(c); show(got) != "3|b:ann a:ann b:root|z:y,y a a:z root|"+showGrants(grants.Held(c)) {
		t.Error(show(got))
	}
}

// P19.1: owners may and can; a grant that holds lets who is its To do just what it says, and hand that on with Option alone.
func TestMayAndCan(t *testing.T) {
	for _, one := range []struct{ c, may, can string }{
		{"0|t:ann|" + folk + "|", "ann.1 ann.2 ann.3 ann.4 ann.0 ann.9", "ann.1 ann.2 ann.3 ann.4 ann.0 ann.9"},
		{"0|t:crew|" + folk + "|", "bob.1 bob.2 bob.3 bob.4 bob.0 bob.9 crew.1 crew.2 crew.3 crew.4 crew.0 crew.9", "bob.1 bob.2 bob.3 bob.4 bob.0 bob.9 crew.1 crew.2 crew.3 crew.4 crew.0 crew.9"},
		{"0|t:gone|" + folk + "|gone>ann.1.t+", "", ""},
		{"0|t:gone|" + folk + ",gone gone|gone>ann.1.t", "ann.1 gone.1 gone.2 gone.3 gone.4 gone.0 gone.9 tom.1 tom.2 tom.3 tom.4 tom.0 tom.9", "gone.1 gone.2 gone.3 gone.4 gone.0 gone.9 tom.1 tom.2 tom.3 tom.4 tom.0 tom.9"},
		{"0|t:gone|" + folk + " gone|gone>ann.1.t", "ann.1 gone.1 gone.2 gone.3 gone.4 gone.0 gone.9", "gone.1 gone.2 gone.3 gone.4 gone.0 gone.9"},
		{"0|t:gone|" + folk + " gone|gone>cy.1.t gone>cy.2.t+ gone>cy.9.t", "cy.1 cy.2 cy.9 gone.1 gone.2 gone.3 gone.4 gone.0 gone.9", "cy.2 gone.1 gone.2 gone.3 gone.4 gone.0 gone.9"},
		{"0|t:gone|" + folk + " gone|gone>staff.1.t gone>crew.3.t+", "bob.1 bob.3 crew.1 crew.3 gone.1 gone.2 gone.3 gone.4 gone.0 gone.9 staff.1", "bob.3 crew.3 gone.1 gone.2 gone.3 gone.4 gone.0 gone.9"},
		{"0|t:gone|" + folk + " gone|gone>staff.1.t+ bob>cy.1.t cy>dee.1.t", "bob.1 crew.1 cy.1 gone.1 gone.2 gone.3 gone.4 gone.0 gone.9 staff.1", "bob.1 crew.1 gone.1 gone.2 gone.3 gone.4 gone.0 gone.9 staff.1"},
		{"0|t:gone|" + folk + " gone|cy>dee.1.t+ dee>cy.1.t+", "gone.1 gone.2 gone.3 gone.4 gone.0 gone.9", "gone.1 gone.2 gone.3 gone.4 gone.0 gone.9"},
		{"0|t:gone|" + folk + " gone|gone>root.4.t gone>root.4.t+", "gone.1 gone.2 gone.3 gone.4 gone.0 gone.9 root.4 tom.4", "gone.1 gone.2 gone.3 gone.4 gone.0 gone.9 root.4 tom.4"},
		{"0|u:ann|" + folk + "|ann>cy.1.t ann>cy.1.u", "", ""},
	} {
		c := world(one.c)
		var may, can []string
		for _, role := range names("ann", "bob", "crew", "cy", "dee", "gone", "root", "staff", "tom", "none", "") {
			for _, priv := range []int{api.PrivSelect, api.PrivInsert, api.PrivUpdate, api.PrivDelete, 0, 9} {
				word := role + "." + strconv.Itoa(priv)
				if grants.May(c, role, priv, "t") {
					may = append(may, word)
				}
				if grants.Can(c, role, priv, "t") {
					can = append(can, word)
				}
			}
		}
		if got := strings.Join(may, " "); got != one.may {
			t.Errorf("%s lets do %s", one.c, got)
		}
		if got := strings.Join(can, " "); got != one.can {
			t.Errorf("%s lets hand on %s", one.c, got)
		}
	}
}

// P19.1: a role that is not there may nothing, though a grant names it.
func TestWhoIsNotThereMayNot(t *testing.T) {
	c := world("0|t:ann|ann|ann>bob.1.t+ bob>cy.1.t+")
	for _, role := range names("bob", "cy", "") {
		if grants.May(c, role, 1, "t") || grants.Can(c, role, 1, "t") {
			t.Error(role)
		}
	}
	if c := world("0||ann root|"); grants.May(c, "root", 1, "t") || grants.Can(c, "root", 1, "t") {
		t.Error("root may with a table that is not there")
	}
	if c := world("0|t:ann|ann root|"); grants.May(c, "root", 1, "t") || grants.Can(c, "root", 1, "t") {
		t.Error("root may with a table that is another one's")
	}
}

// chain are as many roles, each of which has a grant with Option from the one ahead of it; the first one owns t, if it is to.
func chain(count int, isOwned bool) api.Catalog {
	c := api.Catalog{Tables: tables("t:none")}
	name := func(i int) string { return "r" + strconv.Itoa(i%count) }
	if isOwned {
		c.Tables = tables("t:r0")
	}
	for i := range count {
		c.Roles = append(c.Roles, api.Role{Name: name(i)})
		c.Grants = append(c.Grants, api.Grant{By: name(i), To: name(i + 1), Table: "t", Priv: 1, Option: true})
	}
	return c
}

// P19.1: many grants, whose order is the worst one, and a long ring.
func TestLongChains(t *testing.T) {
	for _, count := range []int{1, 2, 3, 40, 600} {
		for _, isBack := range []bool{false, true} {
			c, ring := chain(count, true), chain(count, false)
			if isBack {
				slices.Reverse(c.Grants)
				slices.Reverse(ring.Grants)
			}
			last := "r" + strconv.Itoa(count-1)
			if l := grants.Held(c); !slices.Equal(l, c.Grants) || !grants.Can(c, last, 1, "t") || !grants.May(c, last, 1, "t") {
				t.Errorf("of %d grants %d hold", count, len(l))
			}
			if l := grants.Held(ring); len(l) > 0 || grants.May(ring, last, 1, "t") || grants.Can(ring, "r0", 1, "t") {
				t.Errorf("of a ring of %d grants %d hold", count, len(l))
			}
			at := slices.IndexFunc(c.Grants, func(g api.Grant) bool { return g.By == "r"+strconv.Itoa(count/2) })
			c.Grants[at].Option = false
			if l := grants.Held(c); len(l) != count/2+1 {
				t.Errorf("of %d grants with a stop at the middle %d hold", count, len(l))
			}
		}
	}
}
