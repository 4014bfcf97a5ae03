package catalog_test

import (
	"maps"
	"slices"
	"strings"
	"testing"

	"registrar/api"
	"registrar/catalog"
	"registrar/table"
	"registrar/typing"
)

// dice are numbers that are always the same ones.
type dice struct{ seed uint32 }

// below is the next number, from 0 to n - 1.
func (d *dice) below(n int) int {
	d.seed = d.seed*1664525 + 1013904223
	return int(d.seed>>8) % n
}

// pick is one of a list.
func pick[T any](d *dice, l ...T) T { return l[d.below(len(l))] }

// rarely is true once of so many times.
func (d *dice) rarely(n int) bool { return d.below(n) == 0 }

// key is a list of names, most of them unlike.
func (d *dice) key(from []string) []string {
	var l []string
	for range pick(d, 1, 1, 1, 2, 2, 3, 3, 4) {
		if name := pick(d, from...); !slices.Contains(l, name) || d.rarely(20) {
			l = append(l, name)
		}
	}
	return l
}

// colNames are the columns of a table, and sometimes one that is none; of a table without columns a few.
func (d *dice) colNames(t api.Table) []string {
	var l []string
	for _, col := range t.Cols {
		l = append(l, col.Name)
	}
	if len(l) == 0 || d.rarely(15) {
		l = append(l, pick(d, "a", "b", "z"))
	}
	return l
}

// cons is a constraint of a table, mostly one that may be.
func (d *dice) cons(c api.Catalog, t api.Table, name string) api.Cons {
	own := d.colNames(t)
	switch d.below(7) {
	case 0, 1, 2:
		return api.Cons{Name: name, Kind: api.Unique, Cols: d.key(own)}
	case 3:
		e := pick(d, exp("a IS NULL"), exp("a = b"), exp("NULL"), exp("LENGTH(c) > 2"), exp("c"), exp("a + 1"), exp("d IN (1, 2)"), exp("z"))
		return api.Cons{Name: name, Kind: api.Check, Check: e}
	}
	parent := t
	if len(c.Tables) > 0 && !d.rarely(4) {
		parent = pick(d, c.Tables...)
	}
	refs := d.key(d.colNames(parent))
	for _, key := range parent.Cons {
		if key.Kind == api.Unique && !d.rarely(4) {
			refs = slices.Clone(key.Cols)
		}
	}
	cols := d.likes(t, parent, refs)
	if d.rarely(4) {
		slices.Reverse(refs)
	}
	if d.rarely(9) {
		return api.Cons{Name: name, Kind: api.Foreign, Cols: cols, Table: pick(d, "a", "none", "t", "Z", ""), Refs: refs}
	}
	return api.Cons{Name: name, Kind: api.Foreign, Cols: cols, Table: parent.Name, Refs: refs}
}

// likes are columns of a table that have the types of another one's, where there are such.
func (d *dice) likes(t, parent api.Table, refs []string) []string {
	var l []string
	for _, ref := range refs {
		best := pick(d, d.colNames(t)...)
		for _, col := range t.Cols {
			at := table.Col(parent, ref)
			if at >= 0 && parent.Cols[at].Type == col.Type && !slices.Contains(l, col.Name) {
				best = col.Name
			}
		}
		l = append(l, best)
	}
	return l
}

// stmt is a statement about a catalog's tables, mostly one that may be done.
func (d *dice) stmt(c api.Catalog) api.Stmt {
	var t api.Table
	if len(c.Tables) > 0 {
		t = pick(d, c.Tables...)
	}
	s := api.Stmt{Kind: pick(d, 1, 1, 1, 1, 1, 1, 2, 3, 3, 3, 4, 4, 5, 6, 6, 6, 6, 6, 7, 7, 8, 8, 9), Table: t.Name}
	if d.rarely(40) {
		s.Kind, s.Table = d.below(20)-1, pick(d, "a", "b", "m", "t", "z", "Z", "")
	}
	label := pick(d, "g", "h", "i", "j", "k", "l", "m", "n", "o", "p", "q", "r")
	col := api.Column{Name: pick(d, "a", "b", "c", "d", "e", "f", "g", "h"), Type: pick(d, 1, 1, 1, 2, 3, 3), NotNull: d.rarely(3)}
	switch s.Kind {
	case api.CreateTable:
		t = api.Table{Name: pick(d, "a", "b", "c", "m", "n", "t", "u", "v", "w", "x", "y")}
		s.Table = t.Name
		for i := range 1 + d.below(6) {
			t.Cols = append(t.Cols, api.Column{Name: "abcdef"[i : i+1], Type: pick(d, 1, 1, 1, 2, 3, 3)})
		}
		for range pick(d, 0, 1, 1, 2, 3, 6) {
			t.Cons = append(t.Cons, d.cons(c, t, string(rune('g'+len(t.Cons)))))
		}
		s.Cols, s.Cons = t.Cols, t.Cons
	case api.AddColumn:
		s.Cols = slices.Repeat([]api.Column{col}, pick(d, 0, 1, 1, 1, 1, 1, 1, 1, 2))
	case api.DropColumn:
		s.Name = pick(d, d.colNames(t)...)
	case api.Rename:
		s.Name = pick(d, "a", "b", "c", "m", "n", "t", "u", "v", "w", "x", "y", "zz", "Z")
	case api.AddCons:
		s.Cons = slices.Repeat([]api.Cons{d.cons(c, t, label)}, pick(d, 0, 1, 1, 1, 1, 1, 1, 1, 1, 1, 1, 1, 1, 2))
	case api.DropCons, api.DropIndex:
		s.Name = label
		if l := labels(t, s.Kind == api.DropCons); len(l) > 0 && !d.rarely(5) {
			s.Name = pick(d, l...)
		}
	case api.CreateIndex:
		s.Name, s.Names = label, d.key(d.colNames(t))
	}
	return s
}

// labels are the names of a table's constraints, or of its indexes.
func labels(t api.Table, cons bool) []string {
	var l []string
	for _, k := range t.Cons {
		if cons {
			l = append(l, k.Name)
		}
	}
	for _, index := range t.Idx {
		if !cons {
			l = append(l, index.Name)
		}
	}
	return l
}

// whole is a catalog's tables by their names.
func whole(c api.Catalog) map[string]api.Table {
	m := map[string]api.Table{}
	for _, t := range c.Tables {
		m[t.Name] = table.Clone(t)
	}
	return m
}

// sorted is a list of names as one text, in order.
func sorted(l []string) string { return strings.Join(slices.Sorted(slices.Values(l)), ",") }

// types are the types of a table's columns by their names, that of the first one of a name.
func types(t api.Table) map[string]int {
	m := map[string]int{}
	for _, col := range slices.Backward(t.Cols) {
		m[col.Name] = col.Type
	}
	return m
}

// keysOf is how often each list of columns is a Unique's.
func keysOf(t api.Table) map[string]int {
	m := map[string]int{}
	for _, k := range t.Cons {
		if k.Kind == api.Unique {
			m[sorted(k.Cols)]++
		}
	}
	return m
}

// modelSound is Sound by the chapter's words.
func modelSound(m map[string]api.Table, t api.Table) api.Errno {
	if err := table.Check(t); err != api.OK {
		return err
	}
	m = maps.Clone(m)
	m[t.Name] = t
	for _, k := range t.Cons {
		if k.Kind == api.Check {
			e, err := typing.Resolve(t, k.Check)
			if err == api.OK {
				err = typing.Bool(e, typing.Cols(t), nil)
			}
			if err != api.OK {
				return err
			}
		}
		if k.Kind != api.Foreign {
			continue
		}
		parent, ok := m[k.Table]
		if !ok {
			return api.ErrNone
		}
		there, own := types(parent), types(t)
		for _, ref := range k.Refs {
			if _, ok := there[ref]; !ok {
				return api.ErrNone
			}
		}
		for i, ref := range k.Refs {
			if there[ref] != own[k.Cols[i]] {
				return api.ErrType
			}
		}
		if keysOf(parent)[sorted(k.Refs)] == 0 {
			return api.ErrArg
		}
	}
	return api.OK
}

// refer are the Refs of all Foreigns to a table, and who has them.
func refer(m map[string]api.Table, name string) (refs [][]string, who []string) {
	for _, t := range m {
		for _, k := range t.Cons {
			if k.Kind == api.Foreign && k.Table == name {
				refs, who = append(refs, k.Refs), append(who, t.Name)
			}
		}
	}
	return refs, who
}

// fault is an error that is told where it is so.
type fault struct {
	is  bool
	err api.Errno
}

// first is the first error that is so.
func first(l ...fault) api.Errno {
	for _, f := range l {
		if f.is {
			return f.err
		}
	}
	return api.OK
}

// modelFaults are what is asked of a kind ahead of Sound.
func modelFaults(m map[string]api.Table, s api.Stmt) api.Errno {
	t, there := m[s.Table]
	refs, who := refer(m, s.Table)
	uses := slices.ContainsFunc(refs, func(l []string) bool { return slices.Contains(l, s.Name) })
	label := s.Name
	if len(s.Cons) == 1 && s.Kind == api.AddCons {
		label = s.Cons[0].Name
	}
	taken := slices.Contains(append(labels(t, true), labels(t, false)...), label)
	switch s.Kind {
	case api.CreateTable:
		return first(fault{there, api.ErrTwice}, fault{len(m) >= 8, api.ErrFull})
	case api.DropTable:
		others := slices.DeleteFunc(who, func(name string) bool { return name == s.Table })
		return first(fault{!there, api.ErrNone}, fault{len(others) > 0, api.ErrUsed})
	case api.AddColumn:
		return first(fault{!there, api.ErrNone}, fault{len(s.Cols) != 1, api.ErrArg}, fault{len(s.Cols) == 1 && types(t)[s.Cols[0].Name] > 0, api.ErrTwice})
	case api.DropColumn:
		return first(fault{!there, api.ErrNone}, fault{types(t)[s.Name] == 0, api.ErrNone}, fault{uses || table.Uses(t, s.Name) || len(t.Cols) == 1, api.ErrUsed})
	case api.Rename:
		_, taken := m[s.Name]
		return first(fault{!there, api.ErrNone}, fault{taken, api.ErrTwice})
	case api.AddCons:
		return first(fault{!there, api.ErrNone}, fault{len(s.Cons) != 1, api.ErrArg}, fault{taken, api.ErrTwice}, fault{len(t.Cons) >= 6, api.ErrFull})
	case api.CreateIndex:
		return first(fault{!there, api.ErrNone}, fault{taken, api.ErrTwice}, fault{len(t.Idx) >= 3, api.ErrFull})
	case api.DropCons:
		used := false
		for _, k := range t.Cons {
			if k.Name == s.Name && k.Kind == api.Unique {
				used = keysOf(t)[sorted(k.Cols)] == 1 && slices.ContainsFunc(refs, func(l []string) bool { return sorted(l) == sorted(k.Cols) })
			}
		}
		return first(fault{!there, api.ErrNone}, fault{!slices.Contains(labels(t, true), s.Name), api.ErrNone}, fault{used, api.ErrUsed})
	case api.DropIndex:
		return first(fault{!there, api.ErrNone}, fault{!slices.Contains(labels(t, false), s.Name), api.ErrNone})
	}
	return api.ErrArg
}

// modelTable is what a statement makes of a table.
func modelTable(t api.Table, s api.Stmt, owner string) api.Table {
	switch s.Kind {
	case api.CreateTable:
		return api.Table{Name: s.Table, Owner: owner, Cols: s.Cols, Cons: s.Cons}
	case api.AddColumn:
		t.Cols = slices.Concat(t.Cols, s.Cols)
	case api.AddCons:
		t.Cons = slices.Concat(t.Cons, s.Cons)
	case api.CreateIndex:
		t.Idx = slices.Concat(t.Idx, []api.Index{{Name: s.Name, Cols: s.Names}})
	case api.DropColumn:
		t.Cols = slices.DeleteFunc(slices.Clone(t.Cols), func(c api.Column) bool { return c.Name == s.Name })
	case api.DropCons:
		t.Cons = slices.DeleteFunc(slices.Clone(t.Cons), func(k api.Cons) bool { return k.Name == s.Name })
	case api.DropIndex:
		t.Idx = slices.DeleteFunc(slices.Clone(t.Idx), func(i api.Index) bool { return i.Name == s.Name })
	}
	return t
}

// modelMake is Make by the chapter's words, of a catalog whose tables' names are unlike.
func modelMake(c api.Catalog, s api.Stmt, owner string, top int) (api.Catalog, api.Errno) {
	m := whole(c)
	if err := modelFaults(m, s); err != api.OK {
		return api.Catalog{}, err
	}
	next := api.Catalog{Version: c.Version + 1, Roles: c.Roles}
	for _, g := range c.Grants {
		if g.Table == s.Table && s.Kind == api.Rename {
			g.Table = s.Name
		}
		if g.Table != s.Table || s.Kind != api.DropTable {
			next.Grants = append(next.Grants, g)
		}
	}
	t := modelTable(m[s.Table], s, owner)
	delete(m, s.Table)
	if s.Kind == api.Rename {
		m[s.Name] = t
		t.Name = s.Name
		for name, u := range m {
			for i, k := range u.Cons {
				if k.Kind == api.Foreign && k.Table == s.Table {
					u.Cons[i].Table, u.Version = s.Name, next.Version
				}
			}
			m[name] = u
		}
	}
	if s.Kind != api.DropTable {
		if err := modelSound(m, t); err != api.OK {
			return api.Catalog{}, err
		}
		t.Version = next.Version
		m[t.Name] = t
	}
	if c.Version >= top {
		return api.Catalog{}, api.ErrVersion
	}
	for _, name := range slices.Sorted(maps.Keys(m)) {
		next.Tables = append(next.Tables, m[name])
	}
	return next, api.OK
}

// grantsOf are a few grants on tables that are there, and on others.
func (d *dice) grantsOf(c api.Catalog) []api.Grant {
	var l []api.Grant
	for range d.below(5) {
		g := api.Grant{To: pick(d, "ann", "bob"), By: "root", Table: pick(d, "a", "b", "none"), Priv: 1 + d.below(4), Option: d.rarely(2)}
		if len(c.Tables) > 0 && !d.rarely(3) {
			g.Table = pick(d, c.Tables...).Name
		}
		l = append(l, g)
	}
	return l
}

// P17.3 to P17.5: runs of statements from a new catalog on, held against the model; what is made may be, and what was handed in stays.
func TestMakeOfRandom(t *testing.T) {
	d := &dice{seed: 17}
	met := map[[2]int]int{}
	for range 500 {
		c := catalog.New()
		for range 80 {
			c.Grants = d.grantsOf(c)
			s, owner, top := d.stmt(c), pick(d, "root", "root", "ann", "A"), pick(d, c.Version, 100, 100, 100, 100, 100, 100, 100)
			before := show(c)
			want, wantErr := modelMake(c, s, owner, top)
			got, err := catalog.Make(c, s, owner, top)
			if err != wantErr || show(got) != show(want) {
				t.Fatalf("Make of\n%s, %+v is %d, and makes\n%swant %d,\n%s", before, s, err, show(got), wantErr, show(want))
			}
			if show(c) != before {
				t.Fatalf("Make of\n%s, %+v leaves\n%s", before, s, show(c))
			}
			met[[2]int{s.Kind, int(err)}]++
			if err != api.OK {
				continue
			}
			if err := catalog.Check(got); err != api.OK {
				t.Fatalf("Make of\n%s, %+v makes what is %d", before, s, err)
			}
			mustStay(t, c, got, s)
			c = got
		}
	}
	for _, x := range [][2]int{
		{1, 0}, {1, 19}, {1, 5}, {1, 4}, {1, 11}, {1, 2}, {1, 18}, {2, 0}, {2, 34}, {3, 0}, {3, 19}, {3, 3}, {3, 2}, {4, 0}, {4, 34}, {4, 4}, {5, 0}, {5, 19}, {5, 18}, {5, 52},
		{6, 0}, {6, 19}, {6, 5}, {6, 2}, {6, 4}, {6, 11}, {7, 0}, {7, 34}, {7, 4}, {8, 0}, {8, 19}, {8, 5}, {8, 4}, {9, 0}, {9, 4},
	} {
		if met[x] < 10 {
			t.Errorf("kind %d was answered %d only %d times", x[0], x[1], met[x])
		}
	}
}

// mustStay holds that tables that a statement is not about stay, but those that refer to what is renamed.
func mustStay(t *testing.T, before, after api.Catalog, s api.Stmt) {
	t.Helper()
	for _, one := range before.Tables {
		isChild := s.Kind == api.Rename && slices.Contains(catalog.Parents(one), s.Table)
		if got, ok := catalog.Find(after, one.Name); one.Name != s.Table && !isChild && (!ok || !table.Same(got, one)) {
			t.Fatalf("%+v makes of %+v %+v", s, one, got)
		}
	}
}

// P17.2, P17.4: catalogs and tables right and wrong, held against the model.
func TestCheckOfRandom(t *testing.T) {
	d := &dice{seed: 18}
	met := map[api.Errno]int{}
	for range 400 {
		c := catalog.New()
		for range 40 {
			if next, err := catalog.Make(c, d.stmt(c), "root", 1000); err == api.OK {
				c = next
			}
			odd := d.spoil(c)
			want := modelCheck(odd)
			if err := catalog.Check(odd); err != want {
				t.Fatalf("Check of\n%s is %d, want %d", show(odd), err, want)
			}
			met[want]++
			for _, one := range odd.Tables {
				if err := catalog.Sound(c, one); err != modelSound(whole(c), one) {
					t.Fatalf("Sound of\n%s, %s is %d", show(c), showTable(one), err)
				}
			}
		}
	}
	for _, err := range []api.Errno{api.OK, api.ErrArg, api.ErrNone, api.ErrType, api.ErrFull, api.ErrName, api.ErrLong} {
		if met[err] < 50 {
			t.Errorf("error %d was met %d times", err, met[err])
		}
	}
}

// spoil is a catalog in which something else may stand.
func (d *dice) spoil(c api.Catalog) api.Catalog {
	odd := c
	odd.Tables = nil
	for _, t := range c.Tables {
		odd.Tables = append(odd.Tables, table.Clone(t))
	}
	if len(odd.Tables) == 0 {
		return odd
	}
	t := &odd.Tables[d.below(len(odd.Tables))]
	switch d.below(10) {
	case 0:
		odd.Version = pick(d, -1, 0, t.Version, t.Version-1)
	case 1:
		t.Version = pick(d, -1, odd.Version, odd.Version+1)
	case 2:
		t.Name = pick(d, "a", "b", "m", "z", "zz", "Z", "")
	case 3:
		t.Cols[d.below(len(t.Cols))].Type = d.below(5)
	case 4:
		t.Cols[d.below(len(t.Cols))].Name = pick(d, "a", "y", "z", "A")
	case 5:
		t.Cons = append(t.Cons, d.cons(c, *t, "zzz"))
	case 6:
		t.Cons = t.Cons[:len(t.Cons)/2]
	case 7:
		t.Cols = t.Cols[:d.below(len(t.Cols))]
	case 8:
		odd.Tables = slices.Delete(odd.Tables, 0, 1)
	case 9:
		for len(odd.Tables) < 9 {
			last := odd.Tables[len(odd.Tables)-1]
			last.Name += "z"
			odd.Tables = append(odd.Tables, last)
		}
	}
	return odd
}

// modelCheck is Check by the chapter's words.
func modelCheck(c api.Catalog) api.Errno {
	var l []string
	late := c.Version < 0
	for _, t := range c.Tables {
		l = append(l, t.Name)
		late = late || t.Version > c.Version
	}
	if late || len(whole(c)) < len(l) || !slices.IsSorted(l) {
		return api.ErrArg
	}
	if len(l) > 8 {
		return api.ErrFull
	}
	for _, t := range c.Tables {
		if err := modelSound(whole(c), t); err != api.OK {
			return err
		}
	}
	return api.OK
}
