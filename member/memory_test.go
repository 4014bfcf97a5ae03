package member_test

import (
	"slices"
	"testing"

	"registrar/api"
	"registrar/member"
)

// roomy is a list with spare room that is filled with marks.
func roomy[T any](l []T, mark T) []T {
	room := append(slices.Clone(l), mark, mark, mark)
	return room[:len(l)]
}

// full is a list with its spare room.
func full[T any](l []T) []T { return l[:cap(l)] }

// roomyRoles are the roles of a text, all of whose lists have spare room.
func roomyRoles(text string) []api.Role {
	l := roles(text)
	for i := range l {
		l[i].In = roomy(l[i].In, "mark")
	}
	return roomy(l, api.Role{Name: "mark", In: names("mark")})
}

// all is the text of roles and of all of their spare room.
func all(l []api.Role) string {
	wide := slices.Clone(full(l))
	for i := range wide {
		wide[i].In = full(wide[i].In)
	}
	return show(wide)
}

// spoil writes over roles, and over their spare room.
func spoil(l []api.Role) {
	l = full(l)
	for i := range l {
		for j := range full(l[i].In) {
			full(l[i].In)[j] = "spoilt"
		}
		l[i] = api.Role{Name: "spoilt"}
	}
}

const family = "a:b,c,e b:c,d c:d d e"

// P18.5: what is handed in stays, with its spare room, and shares nothing with what is answered.
func TestWhatIsHandedInStays(t *testing.T) {
	for _, text := range []string{family, "a", "a b", "a:b b", "a:b,c,d,e,f,g b:c c d e f g"} {
		for kind := range 4 {
			for _, name := range names("a", "b", "c", "d", "e", "aa", "z", "A") {
				for _, one := range names("a", "b", "c", "e") {
					l := roomyRoles(text)
					was := all(l)
					next, _ := call(l, order{kind, name, one})
					if all(l) != was {
						t.Fatalf("call %d of %s and %s changed %q to %q", kind, name, one, was, all(l))
					}
					copied := show(next)
					spoil(l)
					if show(next) != copied {
						t.Fatalf("call %d of %s and %s shares with %q", kind, name, one, text)
					}
				}
			}
		}
	}
}

// P18.5: what is answered may be written over.
func TestWhatIsAnsweredIsNobodyElses(t *testing.T) {
	for kind, o := range []order{{0, "f", ""}, {1, "e", ""}, {2, "e", "d"}, {3, "e", "a"}} {
		l := roomyRoles(family)
		was := all(l)
		next, err := call(l, o)
		if err != api.OK {
			t.Fatal(kind, err)
		}
		for i := range next {
			for j := range i {
				next[j].In = append(next[j].In, "more")
			}
			if i+1 < len(next) && slices.Contains(full(next[i+1].In), "more") {
				t.Errorf("lists of call %d share", kind)
			}
		}
		spoil(next)
		if all(l) != was {
			t.Errorf("call %d shares what it answers: %q", kind, all(l))
		}
	}
	l := roomyRoles(family)
	was := all(l)
	r, _ := member.Find(l, "a")
	spoil([]api.Role{r})
	names := member.All(l, "a")
	for i := range names {
		names[i] = "spoilt"
	}
	if member.Check(l); all(l) != was {
		t.Errorf("what is asked shares: %q", all(l))
	}
}
