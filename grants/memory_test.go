package grants_test

import (
	"slices"
	"testing"

	"registrar/api"
	"registrar/grants"
)

// roomy is a list with spare room that is filled with marks.
func roomy[T any](l []T, mark T) []T {
	room := append(slices.Clone(l), mark, mark, mark)
	return room[:len(l)]
}

// full is a list with its spare room.
func full[T any](l []T) []T { return l[:cap(l)] }

// roomyWorld is the catalog of a text, all of whose lists have spare room, in which a grant stands that would hold.
func roomyWorld(text string) api.Catalog {
	c := world(text)
	c.Tables = roomy(c.Tables, api.Table{Name: "zz", Owner: "ann", Cols: []api.Column{{Name: "a", Type: api.Int}}})
	for i := range c.Roles {
		c.Roles[i].In = roomy(c.Roles[i].In, "mark")
	}
	c.Roles = roomy(c.Roles, api.Role{Name: "mark", In: names("mark")})
	c.Grants = roomy(c.Grants, list("ann>cy.1.t+")[0])
	return c
}

// all is the text of a catalog and of all of its spare room.
func all(c api.Catalog) string {
	c.Tables, c.Roles, c.Grants = slices.Clone(full(c.Tables)), slices.Clone(full(c.Roles)), full(c.Grants)
	for i := range c.Roles {
		c.Roles[i].In = full(c.Roles[i].In)
	}
	return show(c)
}

// shop is a catalog with grants that hold, and others.
const shop = "6|t:ann u:crew|" + few + "|ann>bob.1.t+ bob>dee.1.t+ bob>dee.2.u dee>bob.3.t ann>crew.4.t bob>dee.3.u"

// orders are statements on the shop, each of a role, of all kinds and answers.
var orders = [][2]string{
	{"root", "CREATE ROLE eve"}, {"root", "CREATE ROLE ann"}, {"ann", "CREATE ROLE eve"}, {"root", "DROP ROLE dee"}, {"root", "DROP ROLE cy"}, {"root", "DROP ROLE ann"}, {"root", "DROP ROLE bob"}, {"root", "DROP ROLE none"},
	{"root", "GRANT ROLE cy TO dee"}, {"root", "GRANT ROLE crew TO bob"}, {"root", "GRANT ROLE cy TO root"}, {"tom", "REVOKE ROLE crew FROM bob"}, {"tom", "REVOKE ROLE crew FROM ann"},
	{"ann", "GRANT SELECT ON t TO cy"}, {"ann", "GRANT DELETE ON t TO crew WITH GRANT OPTION"}, {"ann", "GRANT SELECT ON t TO bob"}, {"cy", "GRANT SELECT ON t TO bob"}, {"bob", "GRANT INSERT ON u TO dee WITH GRANT OPTION"}, {"bob", "GRANT INSERT ON u TO cy"},
	{"ann", "REVOKE SELECT ON t FROM bob"}, {"bob", "REVOKE UPDATE ON u FROM dee"}, {"dee", "REVOKE UPDATE ON t FROM bob"}, {"ann", "REVOKE SELECT ON t FROM cy"},
}

// P19.3: what is handed in stays, its spare room included, and several catalogs come of one.
func TestWhatIsHandedInStays(t *testing.T) {
	for _, one := range orders {
		for _, two := range orders {
			c := roomyWorld(shop)
			was := all(c)
			first, err := grants.Make(c, say(one[1]), one[0], 9)
			told := show(first)
			plain, plainErr := grants.Make(world(shop), say(one[1]), one[0], 9)
			if err != plainErr || told != show(plain) {
				t.Fatalf("%s with spare room is %d, %s", one[1], err, told)
			}
			second, err := grants.Make(c, say(two[1]), two[0], 9)
			other, _ := grants.Make(world(shop), say(two[1]), two[0], 9)
			if show(second) != show(other) || show(first) != told || all(c) != was {
				t.Fatalf("%s and %s make\n%s\n%s, %d of\n%s, which was\n%s", one[1], two[1], show(first), show(second), err, all(c), was)
			}
			third, err := grants.Make(first, say(two[1]), two[0], 9)
			if plain, plainErr := grants.Make(plain, say(two[1]), two[0], 9); err != plainErr || show(third) != show(plain) || show(first) != told {
				t.Fatalf("%s behind %s makes\n%s", two[1], one[1], show(third))
			}
		}
	}
}

// P19.3: grants that are answered are their caller's.
func TestGrantsAreTheCallers(t *testing.T) {
	whole := "6|t:ann u:crew|" + few + "|ann>bob.1.t+ bob>dee.1.t"
	for _, text := range names(shop, whole) {
		c := roomyWorld(text)
		was := all(c)
		lists := [][]api.Grant{grants.Held(c), grants.Held(c), grants.Trim(c).Grants}
		for _, one := range orders {
			if next, err := grants.Make(c, say(one[1]), one[0], 9); err == api.OK {
				lists = append(lists, next.Grants)
			}
		}
		var told []string
		for _, l := range lists {
			told = append(told, showGrants(l))
		}
		for i, l := range lists {
			if showGrants(l) != told[i] {
				t.Errorf("list %d shares with another one", i)
			}
			for j := range full(l) {
				full(l)[j] = api.Grant{To: "spoilt"}
			}
		}
		if all(c) != was {
			t.Errorf("grants of %s share with what was handed in:\n%s", was, all(c))
		}
	}
}

// P19.1: what is asked changes nothing, and does not ask what is in spare room.
func TestAskingLeavesAll(t *testing.T) {
	c := roomyWorld("6|t:ann|" + few + "|")
	if grants.May(c, "cy", 1, "t") || grants.Can(c, "cy", 1, "t") || grants.Owns(c, "ann", "zz") || len(grants.Held(c)) > 0 || len(grants.Trim(c).Grants) > 0 {
		t.Error("what is in spare room is there")
	}
	c = roomyWorld(shop)
	was := all(c)
	for _, role := range names("ann", "bob", "cy", "dee", "root", "mark") {
		for priv := range 5 {
			grants.May(c, role, priv, "t")
			grants.Can(c, role, priv, "u")
			grants.Owns(c, role, "u")
		}
	}
	if all(c) != was {
		t.Errorf("asking makes of\n%s\n%s", was, all(c))
	}
}
