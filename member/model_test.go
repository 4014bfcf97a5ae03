package member_test

import (
	"maps"
	"slices"
	"testing"

	"registrar/api"
	"registrar/lex"
	"registrar/member"
)

// dice are numbers that are always the same ones.
type dice struct{ seed uint32 }

// below is the next number, from 0 to n - 1.
func (d *dice) below(n int) int {
	d.seed = d.seed*1664525 + 1013904223
	return int(d.seed>>8) % n
}

// pick is one of a list.
func pick[T any](d *dice, l ...T) T { return l[d.below(len(l))] }

// model is which role is in which, by names.
type model map[string]map[string]bool

// modelOf is the model of right roles.
func modelOf(l []api.Role) model {
	m := model{}
	for _, r := range l {
		m[r.Name] = map[string]bool{}
		for _, name := range r.In {
			m[r.Name][name] = true
		}
	}
	return m
}

// list is the roles of a model.
func (m model) list() []api.Role {
	var l []api.Role
	for _, name := range slices.Sorted(maps.Keys(m)) {
		l = append(l, api.Role{Name: name, In: slices.Sorted(maps.Keys(m[name]))})
	}
	return l
}

// clone is the same model once more.
func (m model) clone() model { return modelOf(m.list()) }

// reaches asks whether steps lead from one role to another, of which the first one is a role's own In.
func (m model) reaches(from, to string, left int) bool {
	for name := range m[from] {
		if m[name] != nil && (name == to || left > 0 && m.reaches(name, to, left-1)) {
			return true
		}
	}
	return false
}

// is asks whether a role is another one.
func (m model) is(name, of string) bool {
	return m[name] != nil && (name == of || m.reaches(name, of, api.MaxRoles))
}

// order is a call that changes roles.
type order struct {
	kind      int
	name, one string
}

// made is what a call makes of a model.
func (m model) made(o order) (model, api.Errno) {
	next := m.clone()
	switch o.kind {
	case 0:
		if !lex.IsName(o.name) {
			return nil, api.ErrName
		}
		if m[o.name] != nil {
			return nil, api.ErrTwice
		}
		if len(m) >= 8 {
			return nil, api.ErrFull
		}
		next[o.name] = map[string]bool{}
	case 1:
		if m[o.name] == nil {
			return nil, api.ErrNone
		}
		if o.name == "root" {
			return nil, api.ErrUsed
		}
		delete(next, o.name)
		for _, in := range next {
			delete(in, o.name)
		}
	case 2:
		if m[o.name] == nil || m[o.one] == nil {
			return nil, api.ErrNone
		}
		if m[o.one][o.name] {
			return nil, api.ErrTwice
		}
		if m.is(o.name, o.one) {
			return nil, api.ErrCycle
		}
		next[o.one][o.name] = true
	default:
		if !m[o.one][o.name] {
			return nil, api.ErrNone
		}
		delete(next[o.one], o.name)
	}
	return next, api.OK
}

// call makes a call of the package.
func call(l []api.Role, o order) ([]api.Role, api.Errno) {
	switch o.kind {
	case 0:
		return member.Create(l, o.name)
	case 1:
		return member.Drop(l, o.name)
	case 2:
		return member.Grant(l, o.name, o.one)
	}
	return member.Revoke(l, o.name, o.one)
}

// P18.1 to P18.5: runs of calls against a model that has the chapter's words; what comes of right roles is right, and no role is another one that is it.
func TestRuns(t *testing.T) {
	d := &dice{seed: 18}
	heard := map[api.Errno]int{}
	some := names("root", "a", "b", "c", "d", "e", "f", "g", "h", "i")
	for range 300 {
		l := roles("root")
		m := modelOf(l)
		for range 80 {
			o := order{kind: pick(d, 0, 0, 1, 2, 2, 2, 2, 2, 3, 3), name: pick(d, some...), one: pick(d, some...)}
			if d.below(40) == 0 {
				o.name = pick(d, "", "A", "a-b")
			}
			next, err := call(l, o)
			want, wantErr := m.made(o)
			if err != wantErr || show(next) != show(want.list()) {
				t.Fatalf("%v in %q is %q, %d, not %q, %d", o, show(l), show(next), err, show(want.list()), wantErr)
			}
			heard[err]++
			if err != api.OK {
				continue
			}
			l, m = next, want
			asked(t, l, m)
		}
	}
	for _, err := range []api.Errno{api.OK, api.ErrName, api.ErrTwice, api.ErrFull, api.ErrNone, api.ErrUsed, api.ErrCycle} {
		if heard[err] < 20 {
			t.Errorf("%d came only %d times", err, heard[err])
		}
	}
}

// asked holds what is asked of right roles against their model.
func asked(t *testing.T, l []api.Role, m model) {
	t.Helper()
	if err := member.Check(l); err != api.OK {
		t.Fatalf("%q is not right: %d", show(l), err)
	}
	for _, r := range l {
		var all []string
		for _, other := range l {
			is := member.Is(l, r.Name, other.Name)
			if is != m.is(r.Name, other.Name) {
				t.Fatalf("Is %s %s in %q: %t", r.Name, other.Name, show(l), is)
			}
			if is {
				all = append(all, other.Name)
			}
			if is && r.Name != other.Name && member.Is(l, other.Name, r.Name) {
				t.Fatalf("%s and %s are one another in %q", r.Name, other.Name, show(l))
			}
		}
		if got := member.All(l, r.Name); !slices.Equal(got, all) {
			t.Fatalf("All of %s in %q is %q", r.Name, show(l), got)
		}
	}
}

// P18.1 and P18.4: any roles, most of them not right, against the chapter's words.
func TestAnyRoles(t *testing.T) {
	d := &dice{seed: 4}
	good := 0
	some := names("a", "b", "c", "d")
	for range 40000 {
		var l []api.Role
		for range d.below(5) {
			r := api.Role{Name: pick(d, some...)}
			for range pick(d, 0, 0, 1, 1, 2) {
				r.In = append(r.In, pick(d, some...))
			}
			l = append(l, r)
		}
		if d.below(2) == 0 {
			slices.SortFunc(l, func(a, b api.Role) int { return int(a.Name[0]) - int(b.Name[0]) })
		}
		first := model{}
		for _, r := range l {
			if first[r.Name] == nil {
				first[r.Name] = modelOf([]api.Role{r})[r.Name]
			}
		}
		for _, name := range some {
			for _, of := range some {
				if got, want := member.Is(l, name, of), first.is(name, of); got != want {
					t.Fatalf("Is %s %s in %q: %t", name, of, show(l), got)
				}
			}
		}
		want := api.OK
		if !fine(l, first) {
			want = api.ErrArg
		} else {
			good++
		}
		if err := member.Check(l); err != want {
			t.Fatalf("Check of %q is %d", show(l), err)
		}
	}
	if good < 1000 {
		t.Errorf("only %d were right", good)
	}
}

// fine asks whether roles of good names are right.
func fine(l []api.Role, m model) bool {
	text := show(l)
	if text != show(m.list()) {
		return false
	}
	for _, r := range l {
		for _, name := range r.In {
			if m[name] == nil {
				return false
			}
		}
		if m.reaches(r.Name, r.Name, api.MaxRoles) {
			return false
		}
	}
	return true
}
