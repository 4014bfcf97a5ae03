package grants

import (
	"slices"

	"registrar/api"
	"registrar/member"
)

// root is the role that may change roles.
const root = "root"

// Make is the catalog that a statement makes.
func Make(c api.Catalog, s api.Stmt, by string, most int) (api.Catalog, api.Errno) {
	err := change(&c, s, by)
	if err == api.OK && c.Version >= most {
		err = api.ErrVersion
	}
	if err != api.OK {
		return api.Catalog{}, err
	}
	c.Version++
	return Trim(c), api.OK
}

// change lays the roles, or the grants, that a statement makes into a catalog.
func change(c *api.Catalog, s api.Stmt, by string) (err api.Errno) {
	if s.Kind < api.CreateRole || s.Kind > api.RevokePriv {
		return api.ErrArg
	}
	if _, there := member.Find(c.Roles, by); !there {
		return api.ErrNone
	}
	g := api.Grant{To: s.Role, By: by, Table: s.Table, Priv: s.Priv, Option: s.Option}
	switch s.Kind {
	case api.DropRole:
		if slices.ContainsFunc(c.Tables, func(t api.Table) bool { return t.Owner == s.Name }) {
			err = api.ErrUsed
		}
		fallthrough
	case api.CreateRole, api.GrantRole, api.RevokeRole:
		if !member.Is(c.Roles, by, root) {
			return api.ErrDenied
		}
		if err == api.OK {
			c.Roles, err = changed(c.Roles, s)
		}
	case api.GrantPriv:
		c.Grants, err = with(*c, g)
	case api.RevokePriv:
		c.Grants, err = without(c.Grants, g)
	}
	return err
}

// changed are the roles that a statement makes.
func changed(l []api.Role, s api.Stmt) ([]api.Role, api.Errno) {
	switch s.Kind {
	case api.CreateRole:
		return member.Create(l, s.Name)
	case api.DropRole:
		return member.Drop(l, s.Name)
	case api.GrantRole:
		return member.Grant(l, s.Name, s.Role)
	}
	return member.Revoke(l, s.Name, s.Role)
}

// with are a catalog's grants with one that its By hands on: one more, or one that was there and has Option now.
func with(c api.Catalog, g api.Grant) ([]api.Grant, api.Errno) {
	next, at := slices.Clone(c.Grants), place(c.Grants, g)
	isAsMuch := func(old api.Grant) bool { return isLike(old, g) && (old.Option || !g.Option) }
	switch {
	case !isThere(c, g):
		return nil, api.ErrNone
	case !Can(c, g.By, g.Priv, g.Table):
		return nil, api.ErrDenied
	case slices.ContainsFunc(next, isAsMuch):
		return nil, api.ErrTwice
	case at >= 0:
		next[at].Option = true
		return next, api.OK
	case len(next) >= api.MaxGrants:
		return nil, api.ErrFull
	}
	return append(next, g), api.OK
}

// without are grants without one.
func without(l []api.Grant, g api.Grant) ([]api.Grant, api.Errno) {
	at := place(l, g)
	if at < 0 {
		return nil, api.ErrNone
	}
	return slices.Delete(slices.Clone(l), at, at+1), api.OK
}

// place is where the first grant stands that is like one; below 0, if there is none.
func place(l []api.Grant, g api.Grant) int {
	return slices.IndexFunc(l, func(old api.Grant) bool { return isLike(old, g) })
}

// isLike asks whether two grants are one, but for their Option.
func isLike(a, b api.Grant) bool {
	a.Option = b.Option
	return a == b
}
