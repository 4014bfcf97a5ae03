package member

import (
	"slices"

	"registrar/api"
	"registrar/lex"
)

// root is the role that always stays.
const root = "root"

// Create is roles with one more.
func Create(l []api.Role, name string) ([]api.Role, api.Errno) {
	if err := Check(l); err != api.OK {
		return nil, err
	}
	switch {
	case !lex.IsName(name):
		return nil, api.ErrName
	case place(l, name) >= 0:
		return nil, api.ErrTwice
	case len(l) == api.MaxRoles:
		return nil, api.ErrFull
	}
	return with(cloneAll(l), name), api.OK
}

// with puts a role that is a member of none among roles, in its order.
func with(l []api.Role, name string) []api.Role {
	at := 0
	for at < len(l) && l[at].Name < name {
		at++
	}
	return slices.Insert(l, at, api.Role{Name: name})
}

// Drop is roles without one.
func Drop(l []api.Role, name string) ([]api.Role, api.Errno) {
	if err := Check(l); err != api.OK {
		return nil, err
	}
	at := place(l, name)
	switch {
	case at < 0:
		return nil, api.ErrNone
	case name == root:
		return nil, api.ErrUsed
	}
	rest := slices.Delete(cloneAll(l), at, at+1)
	for i, r := range rest {
		rest[i].In = without(r.In, name)
	}
	return rest, api.OK
}

// Grant makes a role a member.
func Grant(l []api.Role, name, to string) ([]api.Role, api.Errno) {
	if err := Check(l); err != api.OK {
		return nil, err
	}
	at := place(l, to)
	switch {
	case at < 0 || place(l, name) < 0:
		return nil, api.ErrNone
	case slices.Contains(l[at].In, name):
		return nil, api.ErrTwice
	case Is(l, name, to):
		return nil, api.ErrCycle
	}
	next := cloneAll(l)
	next[at].In = append(next[at].In, name)
	slices.Sort(next[at].In)
	return next, api.OK
}

// Revoke makes it none.
func Revoke(l []api.Role, name, from string) ([]api.Role, api.Errno) {
	if err := Check(l); err != api.OK {
		return nil, err
	}
	at := place(l, from)
	if at < 0 || !slices.Contains(l[at].In, name) {
		return nil, api.ErrNone
	}
	next := cloneAll(l)
	next[at].In = without(next[at].In, name)
	return next, api.OK
}

// cloneAll is roles with lists of their own.
func cloneAll(l []api.Role) []api.Role {
	out := make([]api.Role, len(l))
	for i, r := range l {
		out[i] = clone(r)
	}
	return out
}

// without takes a name out of names.
func without(names []string, name string) []string {
	return slices.DeleteFunc(names, func(n string) bool { return n == name })
}
