package catalog

import (
	"slices"

	"registrar/api"
	"registrar/table"
)

// Make is the catalog that a statement makes.
func Make(c api.Catalog, s api.Stmt, owner string, most int) (api.Catalog, api.Errno) {
	t, err := subject(c, s, owner)
	if err == api.OK {
		err = change(c, &t, s)
	}
	if err == api.OK && s.Kind != api.DropTable {
		err = Sound(c, t)
	}
	if err == api.OK && c.Version >= most {
		err = api.ErrVersion
	}
	if err != api.OK {
		return api.Catalog{}, err
	}
	return settle(c, t, s), api.OK
}

// subject is the table that a statement is about, in memory of its own: there already, but that of a CreateTable, which is made.
func subject(c api.Catalog, s api.Stmt, owner string) (api.Table, api.Errno) {
	t, there := Find(c, s.Table)
	switch {
	case s.Kind < api.CreateTable || s.Kind > api.DropIndex:
		return api.Table{}, api.ErrArg
	case s.Kind != api.CreateTable && !there:
		return api.Table{}, api.ErrNone
	case s.Kind == api.CreateTable && there:
		return api.Table{}, api.ErrTwice
	case s.Kind == api.CreateTable && len(c.Tables) >= api.MaxTables:
		return api.Table{}, api.ErrFull
	case s.Kind == api.AddColumn && len(s.Cols) != 1, s.Kind == api.AddCons && len(s.Cons) != 1:
		return api.Table{}, api.ErrArg
	case s.Kind == api.CreateTable:
		t = api.Table{Name: s.Table, Owner: owner, Cols: s.Cols, Cons: s.Cons}
	}
	return table.Clone(t), api.OK
}

// change makes of a table what a statement makes of it, where neither it nor its children forbid that.
func change(c api.Catalog, t *api.Table, s api.Stmt) (err api.Errno) {
	name, isFull := s.Name, len(t.Idx) >= api.MaxIdx
	switch s.Kind {
	case api.DropTable:
		return dropTable(c, t.Name)
	case api.AddColumn:
		return addColumn(t, s.Cols[0])
	case api.DropColumn:
		return dropColumn(c, t, s.Name)
	case api.Rename:
		return rename(c, t, s.Name)
	case api.AddCons:
		name, isFull = s.Cons[0].Name, len(t.Cons) >= api.MaxCons
		fallthrough
	case api.CreateIndex:
		if table.Named(*t, name) {
			return api.ErrTwice
		}
		if isFull {
			return api.ErrFull
		}
		add(t, s)
	case api.DropCons:
		return dropCons(c, t, s.Name)
	case api.DropIndex:
		t.Idx, err = without(t.Idx, func(index api.Index) bool { return index.Name == s.Name })
	}
	return err
}

// without is a list without the first part of which something is so.
func without[T any](l []T, isSo func(part T) bool) ([]T, api.Errno) {
	at := slices.IndexFunc(l, isSo)
	if at < 0 {
		return nil, api.ErrNone
	}
	return slices.Delete(l, at, at+1), api.OK
}

// dropTable asks whether a table may go.
func dropTable(c api.Catalog, name string) api.Errno {
	if slices.ContainsFunc(Children(c, name), func(child string) bool { return child != name }) {
		return api.ErrUsed
	}
	return api.OK
}

// addColumn lays a column behind the others.
func addColumn(t *api.Table, col api.Column) api.Errno {
	if table.Col(*t, col.Name) >= 0 {
		return api.ErrTwice
	}
	t.Cols = append(t.Cols, col)
	return api.OK
}

// dropColumn takes a column away that nothing needs.
func dropColumn(c api.Catalog, t *api.Table, name string) (err api.Errno) {
	if table.Col(*t, name) < 0 {
		return api.ErrNone
	}
	isReferred := isAmong(c, t.Name, func(refs []string) bool { return slices.Contains(refs, name) })
	if isReferred || table.Uses(*t, name) || len(t.Cols) == 1 {
		return api.ErrUsed
	}
	t.Cols, err = without(t.Cols, func(col api.Column) bool { return col.Name == name })
	return err
}

// isAmong asks whether something is so of the Refs of a Foreign, of whatever table, that refers to a table.
func isAmong(c api.Catalog, name string, isSo func(refs []string) bool) bool {
	for _, t := range c.Tables {
		for _, cons := range t.Cons {
			if cons.Kind == api.Foreign && cons.Table == name && isSo(cons.Refs) {
				return true
			}
		}
	}
	return false
}

// rename gives a table a name that no other one has.
func rename(c api.Catalog, t *api.Table, name string) api.Errno {
	if _, there := Find(c, name); there {
		return api.ErrTwice
	}
	redirect(t, t.Name, name)
	t.Name = name
	return api.OK
}

// redirect lets Foreigns that refer to a table refer to another one.
func redirect(t *api.Table, from, to string) {
	for i, cons := range t.Cons {
		if cons.Kind == api.Foreign && cons.Table == from {
			t.Cons[i].Table = to
		}
	}
}

// add lays a statement's constraint or index behind the others.
func add(t *api.Table, s api.Stmt) {
	if s.Kind == api.AddCons {
		t.Cons = append(t.Cons, table.Clone(api.Table{Cons: s.Cons}).Cons...)
		return
	}
	t.Idx = append(t.Idx, api.Index{Name: s.Name, Cols: slices.Clone(s.Names)})
}

// dropCons takes a constraint away. A Unique to which others refer may go where another one keeps their key.
func dropCons(c api.Catalog, t *api.Table, name string) (err api.Errno) {
	isIt := func(cons api.Cons) bool { return cons.Name == name }
	at := slices.IndexFunc(t.Cons, isIt)
	if at < 0 {
		return api.ErrNone
	}
	cons := t.Cons[at]
	t.Cons, err = without(t.Cons, isIt)
	isOther := slices.ContainsFunc(t.Cons, func(other api.Cons) bool { return isKey(other, cons.Cols) })
	if !isOther && isAmong(c, t.Name, func(refs []string) bool { return isKey(cons, refs) }) {
		return api.ErrUsed
	}
	return err
}

// settle is a catalog of the next version, with a table in the place of the one that a statement is about.
func settle(c api.Catalog, t api.Table, s api.Stmt) api.Catalog {
	c.Version++
	t.Version = c.Version
	c.Tables = slices.Clone(c.Tables)
	if at, there := place(c.Tables, s.Table); there {
		c.Tables = slices.Delete(c.Tables, at, at+1)
	}
	switch s.Kind {
	case api.DropTable:
		c.Grants = slices.DeleteFunc(slices.Clone(c.Grants), func(g api.Grant) bool { return g.Table == s.Table })
		return c
	case api.Rename:
		follow(&c, s.Table, s.Name)
	}
	at, _ := place(c.Tables, t.Name)
	c.Tables = slices.Insert(c.Tables, at, t)
	return c
}

// follow lets a renamed table's children and grants name it as it is named now. The list of tables is the catalog's own already.
func follow(c *api.Catalog, from, to string) {
	for i, t := range c.Tables {
		if slices.Contains(Parents(t), from) {
			c.Tables[i] = table.Clone(t)
			c.Tables[i].Version = c.Version
			redirect(&c.Tables[i], from, to)
		}
	}
	c.Grants = slices.Clone(c.Grants)
	for i, g := range c.Grants {
		if g.Table == from {
			c.Grants[i].Table = to
		}
	}
}
