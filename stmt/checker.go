package stmt

import (
	"registrar/api"
	"registrar/expr"
	"registrar/lex"
)

// noLimit is the Limit of a Select that has none, and maxLimit is the greatest one.
const (
	noLimit  = -1
	maxLimit = 9999
)

// checker goes through the fields that a statement has by its kind, and lays each into a copy: where the copy is not the same in the end, there is a field that the kind has not.
type checker struct {
	from, kept api.Stmt
	err        api.Errno
}

// note keeps an error. That something is too deep is told only where nothing else is wrong.
func (c *checker) note(err api.Errno) {
	if err != api.OK && c.err != api.ErrArg {
		c.err = err
	}
}

// must asks for what has to be so.
func (c *checker) must(right bool) {
	if !right {
		c.note(api.ErrArg)
	}
}

// each checks the items of a list, of which there have to be so many. If there are not, none is looked at, since there may be very many.
func each[T any](c *checker, items []T, least, most int, check func(item T)) {
	if len(items) < least || len(items) > most {
		c.must(false)
		return
	}
	for _, item := range items {
		check(item)
	}
}

// fields goes through those that the statement's kind has, as do the functions that it chooses among.
func (c *checker) fields() {
	switch {
	case c.from.Kind <= api.DropIndex:
		c.ofTable()
	case c.from.Kind <= api.RevokePriv:
		c.ofRole()
	case c.from.Kind <= api.Select:
		c.ofRows()
	default:
		c.ofPlan()
	}
}

func (c *checker) ofTable() {
	c.table()
	switch c.from.Kind {
	case api.CreateTable:
		c.cols(api.MaxCols)
		c.cons(0, api.MaxCons)
	case api.DropTable:
		// It has no other field.
	case api.AddColumn:
		c.cols(1)
	case api.DropColumn, api.Rename, api.DropCons, api.DropIndex:
		c.name()
	case api.AddCons:
		c.cons(1, 1)
	case api.CreateIndex:
		c.name()
		c.names(1, api.MaxKey)
	default:
		c.must(false)
	}
}

func (c *checker) ofRole() {
	switch c.from.Kind {
	case api.CreateRole, api.DropRole:
		c.name()
	case api.GrantRole, api.RevokeRole:
		c.name()
		c.role()
	case api.GrantPriv:
		c.kept.Option = c.from.Option
		c.priv()
	case api.RevokePriv:
		c.priv()
	}
}

func (c *checker) ofRows() {
	c.table()
	switch c.from.Kind {
	case api.Insert:
		c.names(0, api.MaxCols)
		c.rows(1, api.MaxInsert, api.MaxCols)
	case api.Update:
		c.sets()
		c.where()
	case api.Delete:
		c.where()
	case api.Select:
		c.rows(0, 1, api.MaxCols)
		c.where()
		c.order()
		c.limit()
	}
}

func (c *checker) ofPlan() {
	c.name()
	switch c.from.Kind {
	case api.Prepare:
		c.kid()
	case api.Execute:
		c.rows(0, 1, api.MaxParams)
	case api.Deallocate:
		// It has no other field.
	default:
		c.must(false)
	}
}

// table takes the field of that name from the statement, as do the functions below that are named like a field.
func (c *checker) table() {
	c.kept.Table = c.from.Table
	c.isName(c.from.Table)
}

func (c *checker) name() {
	c.kept.Name = c.from.Name
	c.isName(c.from.Name)
}

func (c *checker) role() {
	c.kept.Role = c.from.Role
	c.isName(c.from.Role)
}

// priv takes what says who may do what with which table.
func (c *checker) priv() {
	c.kept.Priv = c.from.Priv
	c.must(Priv(c.from.Priv) != "")
	c.table()
	c.role()
}

func (c *checker) cols(most int) {
	c.kept.Cols = c.from.Cols
	each(c, c.from.Cols, 1, most, c.column)
}

func (c *checker) cons(least, most int) {
	c.kept.Cons = c.from.Cons
	each(c, c.from.Cons, least, most, c.constraint)
}

func (c *checker) names(least, most int) {
	c.kept.Names = c.from.Names
	each(c, c.from.Names, least, most, c.isName)
}

func (c *checker) rows(least, most, values int) {
	c.kept.Rows = c.from.Rows
	each(c, c.from.Rows, least, most, func(row []api.Expr) {
		each(c, row, 1, values, c.isExpr)
	})
}

// where takes an expression that may be missing.
func (c *checker) where() {
	c.kept.Where = c.from.Where
	if !expr.Same(c.from.Where, api.Expr{}) {
		c.isExpr(c.from.Where)
	}
}

func (c *checker) sets() {
	c.kept.Sets = c.from.Sets
	each(c, c.from.Sets, 1, api.MaxCols, func(set api.Set) {
		c.isName(set.Name)
		c.isExpr(set.E)
	})
}

func (c *checker) order() {
	c.kept.Order = c.from.Order
	each(c, c.from.Order, 0, api.MaxKey, func(order api.Order) {
		c.isExpr(order.E)
	})
}

func (c *checker) limit() {
	c.kept.Limit = c.from.Limit
	c.must(c.from.Limit >= noLimit && c.from.Limit <= maxLimit)
}

// kid takes the statement that is prepared.
func (c *checker) kid() {
	c.kept.Kids = c.from.Kids
	each(c, c.from.Kids, 1, 1, func(kid api.Stmt) {
		if kid.Kind < api.Insert || kid.Kind > api.Select {
			c.must(false)
			return
		}
		c.note(Check(kid))
	})
}

// isName asks for a name, and the functions below for what they are named by.
func (c *checker) isName(name string) {
	c.must(lex.IsName(name))
}

func (c *checker) isExpr(e api.Expr) {
	c.note(expr.Check(e, false))
}

func (c *checker) column(col api.Column) {
	c.isName(col.Name)
	c.must(Type(col.Type) != "")
}

// constraint checks one as a statement is checked: by a copy that gets what its kind has.
func (c *checker) constraint(cons api.Cons) {
	kept := api.Cons{Name: cons.Name, Kind: cons.Kind}
	c.isName(cons.Name)
	switch cons.Kind {
	case api.Unique:
		kept.Cols = cons.Cols
		c.key(cons.Cols)
	case api.Check:
		kept.Check = cons.Check
		c.isExpr(cons.Check)
	case api.Foreign:
		kept.Cols, kept.Table, kept.Refs = cons.Cols, cons.Table, cons.Refs
		c.key(cons.Cols)
		c.isName(cons.Table)
		c.key(cons.Refs)
		c.must(len(cons.Cols) == len(cons.Refs))
	default:
		c.must(false)
	}
	c.must(sameCons(cons, kept))
}

// key asks for names of columns that a key may have.
func (c *checker) key(names []string) {
	each(c, names, 1, api.MaxKey, c.isName)
}
