package grants_test

import (
	"strings"
	"testing"

	"registrar/api"
	"registrar/catalog"
	"registrar/grants"
	"registrar/parse"
)

// say is the statement of a text.
func say(text string) api.Stmt {
	s, _, err := parse.Parse(text)
	if err != api.OK {
		panic(text + ": " + err.Error())
	}
	return s
}

// is tells where a catalog and an error are not those that are asked for.
func is(t *testing.T, what string, c api.Catalog, err api.Errno, text string, want api.Errno) {
	t.Helper()
	if want != api.OK {
		text = "0|||"
	}
	if err != want || show(c) != text {
		t.Errorf("%s is\n%s, %d, not\n%s, %d", what, show(c), err, text, want)
	}
}

// few are such roles that one more may be.
const few = "ann bob:crew crew cy dee root tom:root"

// step is a statement of a role on a catalog of version 6, without its version, and what is made of it; no text where that is an error.
type step struct {
	c, by, s, then string
	err            api.Errno
}

// try holds steps against what they are to make.
func try(t *testing.T, steps []step) {
	t.Helper()
	for _, one := range steps {
		got, err := grants.Make(world("6|"+one.c), say(one.s), one.by, 7)
		is(t, one.by+": "+one.s+" in "+one.c, got, err, "7|"+one.then, one.err)
	}
}

// P19.2: roles are changed by root, and by who is root, as member changes them; grants of what is not there any more are gone.
func TestRoles(t *testing.T) {
	try(t, []step{
		{"|root|", "root", "CREATE ROLE ann", "|ann root|", 0},
		{"t:ann|" + few + "|ann>cy.1.t", "root", "CREATE ROLE eve", "t:ann|ann bob:crew crew cy dee eve root tom:root|ann>cy.1.t", 0},
		{"|" + folk + "|", "tom", "DROP ROLE cy", "|ann bob:crew crew:staff dee root staff tom:root|", 0},
		{"|" + folk + "|", "tom", "DROP ROLE tom", "|ann bob:crew crew:staff cy dee root staff|", 0},
		{"|" + folk + "|", "root", "DROP ROLE crew", "|ann bob cy dee root staff tom:root|", 0},
		{"|" + folk + "|", "root", "GRANT ROLE cy TO dee", "|ann bob:crew crew:staff cy dee:cy root staff tom:root|", 0},
		{"|" + folk + "|", "tom", "GRANT ROLE dee TO cy", "|ann bob:crew crew:staff cy:dee dee root staff tom:root|", 0},
		{"|" + folk + "|", "root", "GRANT ROLE root TO bob", "|ann bob:crew,root crew:staff cy dee root staff tom:root|", 0},
		{"|" + folk + "|", "root", "GRANT ROLE cy TO root", "|ann bob:crew crew:staff cy dee root:cy staff tom:root|", 0},
		{"|" + folk + "|", "root", "REVOKE ROLE crew FROM bob", "|ann bob crew:staff cy dee root staff tom:root|", 0},
		{"|" + folk + "|", "tom", "REVOKE ROLE root FROM tom", "|ann bob:crew crew:staff cy dee root staff tom|", 0},

		{"|" + folk + "|", "root", "CREATE ROLE ann", "", api.ErrTwice},
		{"|a b c d e f g root|", "root", "CREATE ROLE h", "", api.ErrFull},
		{"|a b c d e f g root|", "root", "CREATE ROLE a", "", api.ErrTwice},
		{"|" + folk + "|", "root", "DROP ROLE root", "", api.ErrUsed},
		{"|" + folk + "|", "root", "DROP ROLE none", "", api.ErrNone},
		{"|" + folk + "|", "root", "GRANT ROLE none TO ann", "", api.ErrNone},
		{"|" + folk + "|", "root", "GRANT ROLE ann TO none", "", api.ErrNone},
		{"|" + folk + "|", "root", "GRANT ROLE crew TO bob", "", api.ErrTwice},
		{"|" + folk + "|", "root", "GRANT ROLE bob TO crew", "", api.ErrCycle},
		{"|" + folk + "|", "root", "GRANT ROLE bob TO staff", "", api.ErrCycle},
		{"|" + folk + "|", "root", "GRANT ROLE ann TO ann", "", api.ErrCycle},
		{"|" + folk + "|", "root", "REVOKE ROLE staff FROM bob", "", api.ErrNone},
		{"|" + folk + "|", "root", "REVOKE ROLE bob FROM crew", "", api.ErrNone},
		{"|" + folk + "|", "root", "REVOKE ROLE ann FROM none", "", api.ErrNone},
	})
}

// P19.2: who is not root may not change roles, whatever else is wrong; who is not there is told ahead of that.
func TestRolesDenied(t *testing.T) {
	base := "t:ann|" + folk + "|ann>cy.1.t"
	for _, s := range names("CREATE ROLE eve", "CREATE ROLE ann", "DROP ROLE cy", "DROP ROLE none", "DROP ROLE root", "DROP ROLE ann", "GRANT ROLE cy TO dee", "GRANT ROLE crew TO bob", "GRANT ROLE bob TO crew", "GRANT ROLE none TO ann", "REVOKE ROLE crew FROM bob", "REVOKE ROLE staff FROM bob", "REVOKE ROLE staff FROM none") {
		for _, by := range names("ann", "bob", "crew", "cy", "dee", "staff") {
			try(t, []step{{base, by, s, "", api.ErrDenied}, {"t:ann|root:" + by + " " + by + "|", by, s, "", api.ErrDenied}, {"|" + by + "|", by, s, "", api.ErrDenied}})
		}
		for _, by := range names("none", "eve", "", "ROOT") {
			try(t, []step{{base, by, s, "", api.ErrNone}, {"||", by, s, "", api.ErrNone}, {"t:eve|ann:eve|", by, s, "", api.ErrNone}})
		}
	}
	try(t, []step{{"|ann tom:root|", "tom", "DROP ROLE ann", "", api.ErrDenied}, {"|ann tom:root|", "root", "DROP ROLE ann", "", api.ErrNone}})
}

// P19.2: a role that has a table stays, which is told ahead of what member tells.
func TestOwnersStay(t *testing.T) {
	try(t, []step{
		{"t:ann|" + folk + "|", "root", "DROP ROLE ann", "", api.ErrUsed},
		{"a:cy t:ann u:cy|" + folk + "|", "root", "DROP ROLE ann", "", api.ErrUsed},
		{"a:cy t:ann u:dee|" + folk + "|", "root", "DROP ROLE dee", "", api.ErrUsed},
		{"u:cy t:ann a:dee|" + folk + "|", "tom", "DROP ROLE cy", "", api.ErrUsed},
		{"t:gone|" + folk + "|", "root", "DROP ROLE gone", "", api.ErrUsed},
		{"t:ann|root|", "root", "DROP ROLE ann", "", api.ErrUsed},
		{"t:ann|z y root|", "root", "DROP ROLE ann", "", api.ErrUsed},
		{"t:ann|z y root|", "root", "DROP ROLE y", "", api.ErrArg},
		{"t:crew|" + folk + "|", "root", "DROP ROLE bob", "t:crew|ann crew:staff cy dee root staff tom:root|", 0},
		{"t:crew|" + folk + "|", "root", "DROP ROLE staff", "t:crew|ann bob:crew crew cy dee root tom:root|", 0},
		{"ann:cy|" + folk + "|", "root", "DROP ROLE ann", "ann:cy|bob:crew crew:staff cy dee root staff tom:root|", 0},
		{"t:ann|" + folk + "|", "root", "GRANT ROLE ann TO cy", "t:ann|ann bob:crew crew:staff cy:ann dee root staff tom:root|", 0},
	})
	got, err := grants.Make(world("6|t:Z|"+folk+"|"), api.Stmt{Kind: api.DropRole, Name: "Z"}, "root", 7)
	is(t, "a role of no right name", got, err, "", api.ErrUsed)
	got, err = grants.Make(world("6|t:Z|z y root|"), api.Stmt{Kind: api.CreateRole, Name: "Z"}, "root", 7)
	is(t, "roles that are not right", got, err, "", api.ErrArg)
	got, err = grants.Make(world("6|t:Z|"+folk+"|"), api.Stmt{Kind: api.CreateRole, Name: "Z"}, "root", 7)
	is(t, "a role of no right name", got, err, "", api.ErrName)
}

// P19.2, P19.3: with roles goes what came by way of them, and with members what they have as such.
func TestRolesThatGoTakeGrants(t *testing.T) {
	try(t, []step{
		{"t:ann|" + folk + "|ann>cy.1.t ann>dee.1.t+ dee>cy.1.t dee>bob.1.t+ crew>tom.1.t", "root", "DROP ROLE dee", "t:ann|ann bob:crew crew:staff cy root staff tom:root|ann>cy.1.t", 0},
		{"t:ann|" + folk + "|ann>cy.1.t ann>dee.1.t+ dee>cy.1.t dee>bob.1.t+ bob>tom.1.t", "root", "DROP ROLE bob", "t:ann|ann crew:staff cy dee root staff tom:root|ann>cy.1.t ann>dee.1.t+ dee>cy.1.t", 0},
		{"t:ann|" + folk + "|ann>crew.1.t+ bob>cy.1.t crew>dee.1.t", "root", "REVOKE ROLE crew FROM bob", "t:ann|ann bob crew:staff cy dee root staff tom:root|ann>crew.1.t+ crew>dee.1.t", 0},
		{"t:ann|" + folk + "|ann>staff.1.t+ bob>cy.1.t crew>dee.1.t", "root", "REVOKE ROLE staff FROM crew", "t:ann|ann bob:crew crew cy dee root staff tom:root|ann>staff.1.t+", 0},
		{"t:staff|" + folk + "|bob>cy.1.t+ crew>dee.2.t cy>ann.1.t staff>dee.3.t", "root", "DROP ROLE crew", "t:staff|ann bob cy dee root staff tom:root|staff>dee.3.t", 0},
		{"t:ann|" + folk + "|ann>staff.1.t+ bob>bob.1.t+ bob>cy.1.t", "root", "REVOKE ROLE crew FROM bob", "t:ann|ann bob crew:staff cy dee root staff tom:root|ann>staff.1.t+", 0},
		{"t:ann|" + few + "|cy>dee.1.t+ dee>cy.1.t+ ann>none.1.t ann>cy.1.u ann>cy.2.t", "root", "CREATE ROLE eve", "t:ann|ann bob:crew crew cy dee eve root tom:root|ann>cy.2.t", 0},
		{"t:ann|ann cy root|cy>ann.1.t ann>bob.1.t", "root", "CREATE ROLE bob", "t:ann|ann bob cy root|ann>bob.1.t", 0},
		{"t:ann|ann cy dee root|cy>dee.1.t", "root", "GRANT ROLE ann TO cy", "t:ann|ann cy:ann dee root|cy>dee.1.t", 0},
	})
}

// P19.2: who can hand a privilege on gives it, whom to ever, and by itself alone.
func TestGive(t *testing.T) {
	try(t, []step{
		{"t:ann|" + folk + "|", "ann", "GRANT SELECT ON t TO bob", "t:ann|" + folk + "|ann>bob.1.t", 0},
		{"t:ann|" + folk + "|", "ann", "GRANT INSERT ON t TO bob WITH GRANT OPTION", "t:ann|" + folk + "|ann>bob.2.t+", 0},
		{"t:ann|" + folk + "|", "ann", "GRANT UPDATE ON t TO ann", "t:ann|" + folk + "|ann>ann.3.t", 0},
		{"t:crew|" + folk + "|", "bob", "GRANT DELETE ON t TO crew", "t:crew|" + folk + "|bob>crew.4.t", 0},
		{"t:root|" + folk + "|", "tom", "GRANT DELETE ON t TO cy", "t:root|" + folk + "|tom>cy.4.t", 0},
		{"t:ann|" + folk + "|ann>cy.1.t+", "cy", "GRANT SELECT ON t TO dee", "t:ann|" + folk + "|ann>cy.1.t+ cy>dee.1.t", 0},
		{"t:ann|" + folk + "|ann>staff.1.t+", "bob", "GRANT SELECT ON t TO dee WITH GRANT OPTION", "t:ann|" + folk + "|ann>staff.1.t+ bob>dee.1.t+", 0},
		{"t:ann|" + folk + "|ann>cy.1.t+", "cy", "GRANT SELECT ON t TO cy WITH GRANT OPTION", "t:ann|" + folk + "|ann>cy.1.t+ cy>cy.1.t+", 0},
		{"t:ann|" + folk + "|ann>cy.1.t+ cy>dee.1.t+", "dee", "GRANT SELECT ON t TO cy WITH GRANT OPTION", "t:ann|" + folk + "|ann>cy.1.t+ cy>dee.1.t+ dee>cy.1.t+", 0},
		{"t:ann|" + folk + "|ann>cy.1.t+ cy>dee.1.t+", "dee", "GRANT SELECT ON t TO ann", "t:ann|" + folk + "|ann>cy.1.t+ cy>dee.1.t+ dee>ann.1.t", 0},
		{"t:ann u:cy|" + folk + "|ann>bob.1.t ann>bob.2.t ann>dee.3.t ann>cy.3.t+ cy>bob.3.t cy>bob.3.u", "ann", "GRANT UPDATE ON t TO bob", "t:ann u:cy|" + folk + "|ann>bob.1.t ann>bob.2.t ann>dee.3.t ann>cy.3.t+ cy>bob.3.t cy>bob.3.u ann>bob.3.t", 0},

		{"t:ann|" + folk + "|", "ann", "GRANT SELECT ON u TO bob", "", api.ErrNone},
		{"t:ann|" + folk + "|", "ann", "GRANT SELECT ON t TO none", "", api.ErrNone},
		{"t:ann|" + folk + "|", "none", "GRANT SELECT ON t TO bob", "", api.ErrNone},
		{"t:none|" + folk + "|", "none", "GRANT SELECT ON t TO bob", "", api.ErrNone},
		{"t:ann|" + folk + "|", "cy", "GRANT SELECT ON u TO bob", "", api.ErrNone},
		{"t:ann|" + folk + "|", "cy", "GRANT SELECT ON t TO none", "", api.ErrNone},
		{"t:ann|" + folk + "|", "root", "GRANT SELECT ON t TO bob", "", api.ErrDenied},
		{"t:ann|" + folk + "|", "tom", "GRANT SELECT ON t TO tom", "", api.ErrDenied},
		{"t:crew|" + folk + "|", "staff", "GRANT SELECT ON t TO bob", "", api.ErrDenied},
		{"t:ann|" + folk + "|ann>cy.1.t", "cy", "GRANT SELECT ON t TO dee", "", api.ErrDenied},
		{"t:ann|" + folk + "|ann>cy.1.t+", "cy", "GRANT INSERT ON t TO dee", "", api.ErrDenied},
		{"t:ann u:ann|" + folk + "|ann>cy.1.t+", "cy", "GRANT SELECT ON u TO dee", "", api.ErrDenied},
		{"t:ann|" + folk + "|ann>bob.1.t+", "crew", "GRANT SELECT ON t TO dee", "", api.ErrDenied},
		{"t:ann|" + folk + "|cy>dee.1.t+ dee>cy.1.t+", "cy", "GRANT SELECT ON t TO dee", "", api.ErrDenied},
		{"t:none|" + folk + "|", "root", "GRANT SELECT ON t TO bob", "", api.ErrDenied},
	})
}

// P19.2: one grant is not given twice, but may get its Option; with that it stays.
func TestGiveTwice(t *testing.T) {
	const plain, more = "GRANT SELECT ON t TO bob", "GRANT SELECT ON t TO bob WITH GRANT OPTION"
	try(t, []step{
		{"t:ann|" + folk + "|ann>bob.1.t", "ann", plain, "", api.ErrTwice},
		{"t:ann|" + folk + "|ann>bob.1.t+", "ann", plain, "", api.ErrTwice},
		{"t:ann|" + folk + "|ann>bob.1.t+", "ann", more, "", api.ErrTwice},
		{"t:ann|" + folk + "|ann>bob.1.t", "ann", more, "t:ann|" + folk + "|ann>bob.1.t+", 0},
		{"t:ann u:ann|" + folk + "|ann>cy.1.t ann>bob.1.u ann>bob.1.t ann>bob.2.t", "ann", more, "t:ann u:ann|" + folk + "|ann>cy.1.t ann>bob.1.u ann>bob.1.t+ ann>bob.2.t", 0},
		{"t:crew|" + folk + "|bob>bob.1.t+ staff>bob.1.t", "crew", more, "t:crew|" + folk + "|bob>bob.1.t+ crew>bob.1.t+", 0},
		{"t:crew|" + folk + "|crew>bob.1.t", "bob", plain, "t:crew|" + folk + "|crew>bob.1.t bob>bob.1.t", 0},
		{"t:ann|" + folk + "|ann>crew.1.t+ ann>staff.1.t+", "ann", plain, "t:ann|" + folk + "|ann>crew.1.t+ ann>staff.1.t+ ann>bob.1.t", 0},
		{"t:ann|" + folk + "|ann>cy.1.t+ cy>bob.1.t", "ann", plain, "t:ann|" + folk + "|ann>cy.1.t+ cy>bob.1.t ann>bob.1.t", 0},
		{"t:dee|" + folk + "|ann>bob.1.t", "ann", plain, "", api.ErrDenied},
		{"t:dee|" + folk + "|dee>ann.1.t ann>bob.1.t+", "ann", plain, "", api.ErrDenied},
		{"t:dee|ann dee|ann>bob.1.t", "ann", plain, "", api.ErrNone},
		{"u:ann|" + folk + "|ann>bob.1.t", "ann", plain, "", api.ErrNone},
		{"t:ann|" + folk + "|ann>bob.1.t ann>bob.1.t+", "ann", more, "", api.ErrTwice},
		{"t:ann|" + folk + "|ann>bob.1.t ann>cy.1.t ann>bob.1.t", "ann", more, "t:ann|" + folk + "|ann>bob.1.t+ ann>cy.1.t ann>bob.1.t", 0},
	})
}

// filled are grants as many as may be: ones that hold, of five roles and as many tables, and at last one that may get Option.
func filled(count int) string {
	var words []string
	for _, to := range names("ann", "bob", "cy", "dee", "tom") {
		for _, priv := range names("1", "2", "3", "4") {
			for _, table := range names("t", "u") {
				words = append(words, "ann>"+to+"."+priv+"."+table+"+")
			}
		}
	}
	words = append(words[len(words)-count+1:], "ann>root.1.t")
	return strings.Join(words, " ")
}

// P19.2: there are as many grants as may be, those too that do not hold.
func TestGiveFull(t *testing.T) {
	base := "t:ann u:ann|" + folk + "|"
	all := filled(api.MaxGrants)
	short := filled(api.MaxGrants - 1)
	loose := strings.Repeat("cy>dee.7.none ", api.MaxGrants)
	try(t, []step{
		{base + short, "ann", "GRANT SELECT ON u TO root", base + short + " ann>root.1.u", 0},
		{base + all, "ann", "GRANT SELECT ON u TO root", "", api.ErrFull},
		{base + all + " ann>root.2.t", "ann", "GRANT SELECT ON u TO root", "", api.ErrFull},
		{base + all, "ann", "GRANT SELECT ON t TO root", "", api.ErrTwice},
		{base + all, "ann", "GRANT SELECT ON t TO root WITH GRANT OPTION", base + all + "+", 0},
		{base + all, "crew", "GRANT SELECT ON u TO root", "", api.ErrDenied},
		{base + all, "ann", "GRANT SELECT ON u TO none", "", api.ErrNone},
		{base + all, "ann", "REVOKE SELECT ON t FROM root", base + strings.TrimSuffix(all, " ann>root.1.t"), 0},
		{base + loose, "ann", "GRANT SELECT ON t TO bob", "", api.ErrFull},
		{base + loose, "root", "CREATE ROLE none", "", api.ErrFull},
		{base + loose, "tom", "GRANT ROLE cy TO dee", "t:ann u:ann|ann bob:crew crew:staff cy dee:cy root staff tom:root|", 0},
	})
	got, err := grants.Make(world("7|"+base+all), say("GRANT SELECT ON u TO root"), "ann", 7)
	is(t, "no room and no version", got, err, "", api.ErrFull)
}

// P19.2: who gave it takes it away, and what came of it goes along.
func TestTake(t *testing.T) {
	try(t, []step{
		{"t:ann|" + folk + "|ann>bob.1.t", "ann", "REVOKE SELECT ON t FROM bob", "t:ann|" + folk + "|", 0},
		{"t:ann|" + folk + "|ann>bob.1.t+", "ann", "REVOKE SELECT ON t FROM bob", "t:ann|" + folk + "|", 0},
		{"t:ann|" + folk + "|ann>bob.1.t+ bob>cy.1.t", "ann", "REVOKE SELECT ON t FROM bob", "t:ann|" + folk + "|", 0},
		{"t:ann|" + folk + "|ann>bob.1.t+ bob>cy.1.t+ ann>cy.1.t cy>dee.1.t", "ann", "REVOKE SELECT ON t FROM bob", "t:ann|" + folk + "|ann>cy.1.t", 0},
		{"t:ann|" + folk + "|ann>bob.1.t+ bob>cy.1.t+ ann>cy.1.t+ cy>dee.1.t", "ann", "REVOKE SELECT ON t FROM bob", "t:ann|" + folk + "|ann>cy.1.t+ cy>dee.1.t", 0},
		{"t:ann|" + folk + "|ann>cy.1.t+ cy>dee.1.t+ dee>cy.1.t+", "ann", "REVOKE SELECT ON t FROM cy", "t:ann|" + folk + "|", 0},
		{"t:ann|" + folk + "|ann>cy.1.t+ cy>dee.1.t+ dee>cy.1.t+", "cy", "REVOKE SELECT ON t FROM dee", "t:ann|" + folk + "|ann>cy.1.t+", 0},
		{"t:ann|" + folk + "|ann>cy.1.t+ cy>dee.1.t+ dee>cy.1.t+", "dee", "REVOKE SELECT ON t FROM cy", "t:ann|" + folk + "|ann>cy.1.t+ cy>dee.1.t+", 0},
		{"t:ann|" + folk + "|ann>staff.1.t+ bob>cy.1.t+ crew>cy.1.t cy>dee.1.t", "ann", "REVOKE SELECT ON t FROM staff", "t:ann|" + folk + "|", 0},
		{"t:ann|" + folk + "|ann>staff.1.t+ bob>cy.1.t+ crew>cy.1.t cy>dee.1.t", "bob", "REVOKE SELECT ON t FROM cy", "t:ann|" + folk + "|ann>staff.1.t+ crew>cy.1.t", 0},
		{"t:ann u:ann|" + folk + "|ann>cy.1.t+ ann>cy.2.t+ ann>cy.1.u+ cy>dee.1.t cy>dee.2.t cy>dee.1.u", "ann", "REVOKE SELECT ON t FROM cy", "t:ann u:ann|" + folk + "|ann>cy.2.t+ ann>cy.1.u+ cy>dee.2.t cy>dee.1.u", 0},
		{"t:ann|" + folk + "|ann>cy.1.t dee>cy.1.t", "dee", "REVOKE SELECT ON t FROM cy", "t:ann|" + folk + "|ann>cy.1.t", 0},
		{"t:ann|ann cy|ann>bob.1.t ann>cy.1.t", "ann", "REVOKE SELECT ON t FROM bob", "t:ann|ann cy|ann>cy.1.t", 0},
		{"u:ann|" + folk + "|ann>bob.1.t ann>cy.1.u", "ann", "REVOKE SELECT ON t FROM bob", "u:ann|" + folk + "|ann>cy.1.u", 0},
		{"t:ann|" + folk + "|ann>bob.1.t ann>cy.1.t ann>bob.1.t+", "ann", "REVOKE SELECT ON t FROM bob", "t:ann|" + folk + "|ann>cy.1.t ann>bob.1.t+", 0},

		{"t:ann|" + folk + "|", "ann", "REVOKE SELECT ON t FROM bob", "", api.ErrNone},
		{"t:ann|" + folk + "|ann>bob.1.t", "ann", "REVOKE INSERT ON t FROM bob", "", api.ErrNone},
		{"t:ann u:ann|" + folk + "|ann>bob.1.t", "ann", "REVOKE SELECT ON u FROM bob", "", api.ErrNone},
		{"t:ann|" + folk + "|ann>bob.1.t", "ann", "REVOKE SELECT ON t FROM crew", "", api.ErrNone},
		{"t:ann|" + folk + "|ann>crew.1.t", "ann", "REVOKE SELECT ON t FROM bob", "", api.ErrNone},
		{"t:crew|" + folk + "|crew>cy.1.t", "bob", "REVOKE SELECT ON t FROM cy", "", api.ErrNone},
		{"t:crew|" + folk + "|bob>cy.1.t", "crew", "REVOKE SELECT ON t FROM cy", "", api.ErrNone},
		{"t:ann|" + folk + "|ann>bob.1.t+ bob>cy.1.t", "ann", "REVOKE SELECT ON t FROM cy", "", api.ErrNone},
		{"t:ann|" + folk + "|ann>bob.1.t", "root", "REVOKE SELECT ON t FROM bob", "", api.ErrNone},
		{"t:ann|cy|ann>bob.1.t", "ann", "REVOKE SELECT ON t FROM bob", "", api.ErrNone},
		{"|" + folk + "|", "ann", "REVOKE SELECT ON t FROM none", "", api.ErrNone},
	})
}

// P19.2: only statements about roles and grants are asked of anything else, and who is not there is told first then.
func TestKinds(t *testing.T) {
	c := world("6|t:ann|" + folk + "|ann>cy.1.t")
	for kind := -3; kind < 30; kind++ {
		want := api.ErrArg
		if kind >= api.CreateRole && kind <= api.RevokePriv {
			want = api.ErrNone
		}
		for _, most := range []int{0, 6, 100} {
			s := api.Stmt{Kind: kind, Name: "eve", Role: "cy", Table: "t", Priv: api.PrivSelect}
			got, err := grants.Make(c, s, "none", most)
			is(t, "who is not there", got, err, "", want)
			got, err = grants.Make(c, s, "", most)
			is(t, "who has no name", got, err, "", want)
			if _, err = grants.Make(c, s, "ann", most); err == api.ErrArg != (want == api.ErrArg) {
				t.Errorf("kind %d is %d", kind, err)
			}
		}
	}
	for _, text := range names("SELECT * FROM t", "DROP TABLE t", "CREATE TABLE u (a INT)", "DROP INDEX i ON t", "INSERT INTO t VALUES (1)", "DEALLOCATE p", "PREPARE p AS SELECT a FROM t") {
		got, err := grants.Make(c, say(text), "root", 100)
		is(t, text, got, err, "", api.ErrArg)
	}
	for _, kind := range []int{-1 << 63, 1<<63 - 1, 0} {
		got, err := grants.Make(c, api.Stmt{Kind: kind}, "root", 100)
		is(t, "a kind that is none", got, err, "", api.ErrArg)
	}
}

// P19.2: a privilege is any number, and fields of other kinds do nothing.
func TestOtherFields(t *testing.T) {
	full := say("SELECT a FROM t WHERE a = 1 ORDER BY a LIMIT 3")
	full.Cols, full.Sets, full.Names = []api.Column{{Name: "a"}}, []api.Set{{Name: "a"}}, names("a")
	call := func(c string, s api.Stmt, by string) (api.Catalog, api.Errno) {
		one := full
		one.Kind, one.Table, one.Name, one.Role, one.Priv, one.Option = s.Kind, s.Table, s.Name, s.Role, s.Priv, s.Option
		return grants.Make(world("6|t:ann|"+few+"|"+c), one, by, 7)
	}
	got, err := call("", api.Stmt{Kind: api.GrantPriv, Table: "t", Role: "bob", Priv: 9, Name: "none"}, "ann")
	is(t, "privilege 9", got, err, "7|t:ann|"+few+"|ann>bob.9.t", 0)
	got, err = call("ann>bob.-9.t+", api.Stmt{Kind: api.GrantPriv, Table: "t", Role: "cy", Priv: -9, Option: true}, "bob")
	is(t, "privilege -9", got, err, "7|t:ann|"+few+"|ann>bob.-9.t+ bob>cy.-9.t+", 0)
	got, err = call("ann>bob.9.t", api.Stmt{Kind: api.RevokePriv, Table: "t", Role: "bob", Priv: 9, Option: true, Name: "none"}, "ann")
	is(t, "privilege 9 no more", got, err, "7|t:ann|"+few+"|", 0)
	got, err = call("ann>bob.9.t+", api.Stmt{Kind: api.RevokePriv, Table: "t", Role: "bob", Priv: 9}, "ann")
	is(t, "privilege 9 no more", got, err, "7|t:ann|"+few+"|", 0)
	got, err = call("", api.Stmt{Kind: api.CreateRole, Name: "eve", Role: "none", Table: "none", Option: true}, "tom")
	is(t, "a role", got, err, "7|t:ann|ann bob:crew crew cy dee eve root tom:root|", 0)
	got, err = call("", api.Stmt{Kind: api.DropRole, Name: "cy", Role: "ann", Table: "t", Priv: 1}, "tom")
	is(t, "no role", got, err, "7|t:ann|ann bob:crew crew dee root tom:root|", 0)
}

// P19.2: a version comes behind the catalog's own, if it may; all other errors are told ahead of that it may not.
func TestVersions(t *testing.T) {
	for _, one := range []struct {
		version, most int
		err           api.Errno
	}{
		{0, 1, 0}, {0, 0, api.ErrVersion}, {0, -1, api.ErrVersion}, {5, 6, 0}, {5, 5, api.ErrVersion}, {5, 4, api.ErrVersion}, {5, 1000, 0}, {-5, -4, 0}, {-5, -5, api.ErrVersion}, {-1, 0, 0},
		{api.MaxVersion - 1, api.MaxVersion, 0}, {api.MaxVersion, api.MaxVersion, api.ErrVersion}, {api.MaxVersion, api.MaxVersion + 1, 0},
		{1<<63 - 1, 1<<63 - 1, api.ErrVersion}, {1<<63 - 2, 1<<63 - 1, 0}, {-1 << 63, 1<<63 - 1, 0}, {-1 << 63, -1 << 63, api.ErrVersion}, {1<<63 - 1, -1 << 63, api.ErrVersion},
	} {
		for _, x := range [][3]string{
			{"root", "CREATE ROLE eve", "CREATE ROLE ann"}, {"root", "DROP ROLE cy", "DROP ROLE ann"}, {"root", "GRANT ROLE cy TO dee", "GRANT ROLE crew TO bob"}, {"root", "REVOKE ROLE crew FROM bob", "REVOKE ROLE staff FROM bob"},
			{"ann", "GRANT SELECT ON t TO bob", "GRANT SELECT ON t TO cy"}, {"ann", "GRANT SELECT ON t TO cy WITH GRANT OPTION", "GRANT SELECT ON u TO cy"}, {"ann", "REVOKE SELECT ON t FROM cy", "REVOKE SELECT ON t FROM bob"},
		} {
			c := world("0|t:ann|" + few + "|ann>cy.1.t")
			c.Version = one.version
			got, err := grants.Make(c, say(x[1]), x[0], one.most)
			if err != one.err || err == api.OK && got.Version != one.version+1 || err != api.OK && show(got) != "0|||" {
				t.Errorf("%s of %d, %d is %d, %s", x[1], one.version, one.most, err, show(got))
			}
			if got, err := grants.Make(c, say(x[2]), x[0], one.most); err == api.OK || err == api.ErrVersion || show(got) != "0|||" {
				t.Errorf("%s of %d, %d is %d, %s", x[2], one.version, one.most, err, show(got))
			}
		}
	}
}

// after is a catalog behind statements, each of a role, a colon ahead of it.
func after(t *testing.T, c api.Catalog, texts ...string) api.Catalog {
	t.Helper()
	for _, text := range texts {
		by, said, _ := strings.Cut(text, ": ")
		s := say(said)
		change := grants.Make
		if s.Kind <= api.DropIndex {
			change = catalog.Make
		}
		next, err := change(c, s, by, api.MaxVersion)
		if err != api.OK {
			t.Fatalf("%s is %d", text, err)
		}
		c = next
	}
	return c
}

// P19.1 to P19.3: the chapter's example, and what tables that go, and that are renamed, do.
func TestStory(t *testing.T) {
	c := after(t, catalog.New(), "root: CREATE ROLE ann", "root: CREATE ROLE bob", "root: CREATE ROLE cy", "ann: CREATE TABLE t (a INT)", "ann: GRANT SELECT ON t TO bob WITH GRANT OPTION", "bob: GRANT SELECT ON t TO cy")
	if !grants.May(c, "cy", api.PrivSelect, "t") || grants.Can(c, "cy", api.PrivSelect, "t") || grants.May(c, "cy", api.PrivInsert, "t") || c.Version != 6 {
		t.Error(show(c))
	}
	if d := after(t, c, "ann: REVOKE SELECT ON t FROM bob"); grants.May(d, "cy", api.PrivSelect, "t") || grants.May(d, "bob", api.PrivSelect, "t") || len(d.Grants) > 0 || !grants.May(d, "ann", api.PrivSelect, "t") {
		t.Error(show(d))
	}
	if d := after(t, c, "ann: ALTER TABLE t RENAME TO u"); showGrants(d.Grants) != "ann>bob.1.u+ bob>cy.1.u" || !grants.May(d, "cy", api.PrivSelect, "u") || grants.May(d, "cy", api.PrivSelect, "t") {
		t.Error(show(d))
	}
	if d := after(t, c, "ann: DROP TABLE t", "root: CREATE TABLE t (a INT)"); len(d.Grants) > 0 || grants.May(d, "cy", api.PrivSelect, "t") || grants.Owns(d, "ann", "t") {
		t.Error(show(d))
	}
	if d := after(t, c, "root: DROP ROLE bob", "root: CREATE ROLE bob"); len(d.Grants) > 0 || grants.May(d, "bob", api.PrivSelect, "t") || grants.May(d, "cy", api.PrivSelect, "t") {
		t.Error(show(d))
	}
	if d := after(t, c, "root: GRANT ROLE ann TO cy", "cy: GRANT DELETE ON t TO bob", "root: REVOKE ROLE ann FROM cy"); showGrants(d.Grants) != "ann>bob.1.t+ bob>cy.1.t" {
		t.Error(show(d))
	}
	if !grants.May(c, "cy", api.PrivSelect, "t") {
		t.Error("what was handed in did not stay", show(c))
	}
}
