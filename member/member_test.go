package member_test

import (
	"slices"
	"strings"
	"testing"

	"registrar/api"
	"registrar/member"
)

func names(l ...string) []string { return l }

// roles are those of a text: words with a blank between, each a role, behind a colon the roles that it is in, with commas between.
func roles(text string) []api.Role {
	var l []api.Role
	for word := range strings.FieldsSeq(text) {
		name, in, _ := strings.Cut(word, ":")
		r := api.Role{Name: strings.Trim(name, "'")}
		if in != "" {
			r.In = strings.Split(in, ",")
		}
		l = append(l, r)
	}
	return l
}

// show is the text of roles.
func show(l []api.Role) string {
	var words []string
	for _, r := range l {
		word := r.Name
		if len(r.In) > 0 {
			word += ":" + strings.Join(r.In, ",")
		}
		words = append(words, word)
	}
	return strings.Join(words, " ")
}

// is tells where roles and an error are not those that are asked for.
func is(t *testing.T, what string, l []api.Role, err api.Errno, text string, want api.Errno) {
	t.Helper()
	if err != want || show(l) != text || err != api.OK && l != nil {
		t.Errorf("%s is %q, %d, not %q, %d", what, show(l), err, text, want)
	}
}

// right are roles that may be.
var right = []string{
	"", "root", "a", "a b c d e f g h", "a:b b", "a b:a", "a:b b:c c", "a:b,c b:c c", "a:b,c b:d c:d d", "a:c b:a c",
	"a:b,c,d,e,f,g,h b:c,d,e,f,g,h c:d,e,f,g,h d:e,f,g,h e:f,g,h f:g,h g:h h",
	"a b_2 root:a,b_2", "a b:a c:a,b root tom:root", "abcdefghijkl", "a a1 a_ aa",
}

// wrong are roles that may not be.
var wrong = []string{
	"a b c d e f g h i", "b a", "a a", "a b b c", "a c b", "''", "'' a", "A", "a B", "1", "a 1", "abcdefghijklm", "select!", "a-b",
	"a:a", "a b:b", "a:b b:a", "a:b b:c c:a", "a:b b:c c:b", "a b:c c:d d:b", "a:c b c:d d:a,b", "a:b", "a:z b", "a:b,z b", "a:b,b b", "a:c,b b c", "a:b,c,b b c", "a:A",
	"a:b b:c c:d d:e e:f f:g g:h h:a", "a:b,, b", "b:a a",
}

// P18.1: roles that may be, as many as may be, and what makes them others.
func TestCheck(t *testing.T) {
	for _, text := range right {
		if err := member.Check(roles(text)); err != api.OK {
			t.Errorf("%q is %d", text, err)
		}
	}
	for _, text := range wrong {
		if err := member.Check(roles(text)); err != api.ErrArg {
			t.Errorf("%q is %d", text, err)
		}
	}
	if err := member.Check([]api.Role{{Name: "a", In: names("")}}); err != api.ErrArg {
		t.Error(err)
	}
	if err := member.Check([]api.Role{{Name: ""}, {Name: "a", In: names("")}}); err != api.ErrArg {
		t.Error(err)
	}
	if err := member.Check([]api.Role{}); err != api.OK {
		t.Error(err)
	}
}

// P18.1: whether roles are right is asked ahead of all else.
func TestCheckIsFirst(t *testing.T) {
	for _, text := range wrong {
		for _, name := range names("a", "b", "z", "", "A", "root") {
			for _, other := range names("a", "b", "z", "root") {
				l, err := member.Grant(roles(text), name, other)
				is(t, "Grant in "+text, l, err, "", api.ErrArg)
				l, err = member.Revoke(roles(text), name, other)
				is(t, "Revoke in "+text, l, err, "", api.ErrArg)
			}
			l, err := member.Create(roles(text), name)
			is(t, "Create in "+text, l, err, "", api.ErrArg)
			l, err = member.Drop(roles(text), name)
			is(t, "Drop in "+text, l, err, "", api.ErrArg)
		}
	}
}

// P18.1: the first role of a name is found, among any roles.
func TestFind(t *testing.T) {
	for _, c := range []struct {
		l, name, found string
		there          bool
	}{
		{"a b:a c", "a", "a", true}, {"a b:a c", "b", "b:a", true}, {"a b:a c", "c", "c", true}, {"a b:a c", "d", "", false}, {"a b:a c", "", "", false}, {"", "a", "", false},
		{"b:a a:b b:c b", "b", "b:a", true}, {"b:a a:b a", "a", "a:b", true}, {"a b:c", "c", "", false}, {"ab", "a", "", false}, {"a", "ab", "", false}, {"A:B", "A", "A:B", true}, {"a", "A", "", false},
		{"z y x w v u t s r q p:p,o", "p", "p:p,o", true},
	} {
		r, there := member.Find(roles(c.l), c.name)
		if there != c.there || show([]api.Role{r}) != c.found {
			t.Errorf("Find of %q in %q is %v, %t", c.name, c.l, r, there)
		}
	}
	if r, there := member.Find([]api.Role{{}, {Name: "", In: names("a")}}, ""); !there || r.Name != "" || len(r.In) > 0 {
		t.Error(r, there)
	}
}

// P18.2: a role more stands in its place and is a member of none.
func TestCreate(t *testing.T) {
	long := "abcdefghijkl"
	for _, c := range []struct {
		l, name, then string
		err           api.Errno
	}{
		{"", "a", "a", 0}, {"root", "ann", "ann root", 0}, {"root", "tom", "root tom", 0}, {"a c:a e:a,c", "b", "a b c:a e:a,c", 0}, {"a c:a e:a,c", "d", "a c:a d e:a,c", 0}, {"a c:a e:a,c", "f", "a c:a e:a,c f", 0}, {"b", "a", "a b", 0},
		{"root", long, long + " root", 0}, {"root", long + "m", "", api.ErrName}, {"root", "", "", api.ErrName}, {"root", "A", "", api.ErrName}, {"root", "ROOT", "", api.ErrName}, {"root", "a b", "", api.ErrName}, {"root", " a", "", api.ErrName}, {"root", "a ", "", api.ErrName}, {"root", "1a", "", api.ErrName}, {"root", "a\x00", "", api.ErrName}, {"root", "é", "", api.ErrName},
		{"root", "root", "", api.ErrTwice}, {"a b c", "b", "", api.ErrTwice}, {"a b c", "c", "", api.ErrTwice},
		{"a b c d e f g", "h", "a b c d e f g h", 0}, {"a b c d e f g h", "i", "", api.ErrFull}, {"b c d e f g h i", "a", "", api.ErrFull}, {"a b c d e f g h", "h", "", api.ErrTwice}, {"a b c d e f g h", "1", "", api.ErrName}, {"a b c d e f g h", "_", "", api.ErrName},
	} {
		l, err := member.Create(roles(c.l), c.name)
		is(t, "Create of "+c.name+" in "+c.l, l, err, c.then, c.err)
	}
}

// P18.2: a role that goes is in none of the others any more, and root stays.
func TestDrop(t *testing.T) {
	for _, c := range []struct {
		l, name, then string
		err           api.Errno
	}{
		{"a", "a", "", 0}, {"a b c", "a", "b c", 0}, {"a b c", "b", "a c", 0}, {"a b c", "c", "a b", 0},
		{"a:b,c,d b:c c d:b,c", "c", "a:b,d b d:b", 0}, {"a:b,c,d b:c c d:b,c", "b", "a:c,d c d:c", 0}, {"a:b,c,d b:c c d:b,c", "a", "b:c c d:b,c", 0}, {"a:b,c,d b:c c d:b,c", "d", "a:b,c b:c c", 0},
		{"a:b b:c c", "b", "a c", 0}, {"a:root root", "root", "", api.ErrUsed}, {"root", "root", "", api.ErrUsed}, {"a b", "root", "", api.ErrNone}, {"", "root", "", api.ErrNone},
		{"a b", "c", "", api.ErrNone}, {"a b", "", "", api.ErrNone}, {"a b", "A", "", api.ErrNone}, {"", "a", "", api.ErrNone}, {"root root", "root", "", api.ErrArg}, {"root:a a", "a", "", api.ErrArg}, {"a root:a", "a", "root", 0},
		{"a b c d e f g h:a,b,g", "g", "a b c d e f h:a,b", 0},
	} {
		l, err := member.Drop(roles(c.l), c.name)
		is(t, "Drop of "+c.name+" in "+c.l, l, err, c.then, c.err)
	}
}

// P18.3: a role is granted to another one that is it not yet, but not to one that it is itself.
func TestGrant(t *testing.T) {
	for _, c := range []struct {
		l, name, to, then string
		err               api.Errno
	}{
		{"a b", "a", "b", "a b:a", 0}, {"a b", "b", "a", "a:b b", 0}, {"a:b b c", "c", "a", "a:b,c b c", 0}, {"a:c b c", "b", "a", "a:b,c b c", 0}, {"a:b,d b c d", "c", "a", "a:b,c,d b c d", 0},
		{"a:b b:c c", "c", "a", "a:b,c b:c c", 0}, {"root tom", "root", "tom", "root tom:root", 0}, {"root tom", "tom", "root", "root:tom tom", 0},
		{"a:b b", "b", "a", "", api.ErrTwice}, {"a:b,c,d b c d", "c", "a", "", api.ErrTwice}, {"a:b,c,d b c d", "d", "a", "", api.ErrTwice},
		{"a:b b", "a", "b", "", api.ErrCycle}, {"a b", "a", "a", "", api.ErrCycle}, {"a b:a", "b", "b", "", api.ErrCycle}, {"a b:a c:b", "c", "a", "", api.ErrCycle}, {"a b:a c:b", "c", "b", "", api.ErrCycle}, {"a b:a c:b", "b", "a", "", api.ErrCycle}, {"a b:a c:b", "a", "c", "a b:a c:a,b", 0},
		{"a b:a c:b d:c e:d f:e g:f h:g", "h", "a", "", api.ErrCycle}, {"a b:a c:b d:c e:d f:e g:f h:g", "a", "h", "a b:a c:b d:c e:d f:e g:f h:a,g", 0}, {"a:b,c b:d c d", "d", "c", "a:b,c b:d c:d d", 0}, {"a:b,c b:d c d", "c", "d", "a:b,c b:d c d:c", 0}, {"a:b,c b:d c d", "a", "d", "", api.ErrCycle},
		{"a b", "a", "c", "", api.ErrNone}, {"a b", "c", "a", "", api.ErrNone}, {"a b", "c", "c", "", api.ErrNone}, {"a b", "", "a", "", api.ErrNone}, {"a b", "a", "", "", api.ErrNone}, {"", "a", "a", "", api.ErrNone}, {"a b", "A", "b", "", api.ErrNone}, {"a b", "c", "d", "", api.ErrNone},
	} {
		l, err := member.Grant(roles(c.l), c.name, c.to)
		is(t, "Grant of "+c.name+" to "+c.to+" in "+c.l, l, err, c.then, c.err)
	}
}

// P18.3: only what a role is in itself is revoked from it.
func TestRevoke(t *testing.T) {
	for _, c := range []struct {
		l, name, from, then string
		err                 api.Errno
	}{
		{"a b:a", "a", "b", "a b", 0}, {"a:b,c,d b c d", "b", "a", "a:c,d b c d", 0}, {"a:b,c,d b c d", "c", "a", "a:b,d b c d", 0}, {"a:b,c,d b c d", "d", "a", "a:b,c b c d", 0}, {"a:b,c b:c c d:c", "c", "b", "a:b,c b c d:c", 0},
		{"root tom:root", "root", "tom", "root tom", 0},
		{"a:b b:c c", "c", "a", "", api.ErrNone}, {"a:b b", "a", "b", "", api.ErrNone}, {"a:b b", "a", "a", "", api.ErrNone}, {"a:b b", "b", "b", "", api.ErrNone}, {"a:b b", "b", "c", "", api.ErrNone}, {"a:b b", "c", "a", "", api.ErrNone}, {"a:b b", "b", "", "", api.ErrNone}, {"a:b b", "", "a", "", api.ErrNone}, {"", "a", "b", "", api.ErrNone},
	} {
		l, err := member.Revoke(roles(c.l), c.name, c.from)
		is(t, "Revoke of "+c.name+" from "+c.from+" in "+c.l, l, err, c.then, c.err)
	}
}

// P18.4: what a role is all of, of right roles and of any.
func TestAll(t *testing.T) {
	for _, c := range []struct{ l, name, all string }{
		{"a b:a c:b", "c", "a b c"}, {"a b:a c:b", "b", "a b"}, {"a b:a c:b", "a", "a"}, {"a b:a c:b", "d", ""}, {"a b:a c:b", "", ""}, {"", "a", ""},
		{"a:b,c b:d c:d d", "a", "a b c d"}, {"a:b,c b:d c:d d", "b", "b d"}, {"a:b,c b:d c:d d", "c", "c d"}, {"a:d b c d:b", "a", "a b d"}, {"a b:a c:b d:c e:d f:e g:f h:g", "h", "a b c d e f g h"},
		{"a:a", "a", "a"}, {"a:b b:a", "a", "a b"}, {"a:b b:a", "b", "a b"}, {"a:b b:c c:a d:a", "d", "a b c d"}, {"a:b b:c c:b", "a", "a b c"}, {"a:b b:c c:b", "c", "b c"},
		{"b:a a:b b:c c", "a", "a b"}, {"b:a a:b b:c c", "b", "a b"}, {"a a:b b", "a", "a"}, {"a:b a b", "a", "a b"}, {"c:d b:c d:e", "b", "b c d"}, {"b:b,b,z,b", "b", "b"}, {"z:y y:x x:w", "z", "x y z"}, {"a:z", "z", ""},
		{"a:B,É B É:1 1", "a", "1 B a É"},
		{"k j:k i:j h:i g:h f:g e:f d:e c:d b:c a:b", "a", "a b c d e f g h i j k"},
	} {
		l := roles(c.l)
		all := member.All(l, c.name)
		if strings.Join(all, " ") != c.all {
			t.Errorf("All of %q in %q is %q", c.name, c.l, all)
		}
		for _, r := range append(l, roles("a b c d z")...) {
			if got := member.Is(l, c.name, r.Name); got != slices.Contains(all, r.Name) {
				t.Errorf("Is %q %q in %q: %t", c.name, r.Name, c.l, got)
			}
		}
		if member.Is(l, c.name, "") {
			t.Errorf("%q in %q is nothing", c.name, c.l)
		}
	}
	blank := []api.Role{{Name: "a", In: names("")}, {Name: ""}}
	if all := member.All(blank, "a"); !slices.Equal(all, names("", "a")) || !member.Is(blank, "a", "") || !member.Is(blank, "", "") || member.Is(blank, "", "a") {
		t.Error(all)
	}
}

// P18.4: many roles, each in the next one and in itself, come to an end.
func TestAllOfMany(t *testing.T) {
	var l []api.Role
	for i := range 3000 {
		l = append(l, api.Role{Name: nth(i), In: names(nth(i), nth((i+1)%3000), nth(i/2), nth(5000))})
	}
	if all := member.All(l, nth(17)); len(all) != 3000 || !slices.IsSorted(all) {
		t.Error(len(all))
	}
	if !member.Is(l, nth(4), nth(3)) || member.Is(l, nth(4), nth(5000)) || member.Is(l, nth(5000), nth(4)) || member.Is(l, nth(5000), nth(5000)) {
		t.Error("another answer")
	}
}

// nth is a name for each number.
func nth(i int) string {
	return string([]byte{'a' + byte(i/676%26), 'a' + byte(i/26%26), 'a' + byte(i%26)}) + strings.Repeat("_", i/17576+1)
}
