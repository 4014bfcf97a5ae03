package stmt

import (
	"strconv"
	"strings"

	"registrar/api"
	"registrar/expr"
)

// writer puts the text of a right statement together. It is long, if an expression alone is longer than any text may be.
type writer struct {
	strings.Builder
	long bool
}

// say writes texts one behind the other.
func (w *writer) say(texts ...string) {
	for _, text := range texts {
		w.WriteString(text)
	}
}

// list writes items with a comma and a blank between each two.
func list[T any](w *writer, items []T, write func(item T)) {
	for i, item := range items {
		if i > 0 {
			w.say(", ")
		}
		write(item)
	}
}

// stmt writes a statement, as do the functions that it chooses among.
func (w *writer) stmt(s api.Stmt) {
	switch {
	case s.Kind <= api.DropIndex:
		w.ofTable(s)
	case s.Kind <= api.RevokePriv:
		w.ofRole(s)
	case s.Kind <= api.Select:
		w.ofRows(s)
	default:
		w.ofPlan(s)
	}
}

func (w *writer) ofTable(s api.Stmt) {
	switch s.Kind {
	case api.CreateTable:
		w.createTable(s)
	case api.DropTable:
		w.say("DROP TABLE ", s.Table)
	case api.AddColumn:
		w.say("ALTER TABLE ", s.Table, " ADD COLUMN ")
		w.column(s.Cols[0])
	case api.DropColumn:
		w.say("ALTER TABLE ", s.Table, " DROP COLUMN ", s.Name)
	case api.Rename:
		w.say("ALTER TABLE ", s.Table, " RENAME TO ", s.Name)
	case api.AddCons:
		w.say("ALTER TABLE ", s.Table, " ADD ")
		w.constraint(s.Cons[0])
	case api.DropCons:
		w.say("ALTER TABLE ", s.Table, " DROP CONSTRAINT ", s.Name)
	case api.CreateIndex:
		w.say("CREATE INDEX ", s.Name, " ON ", s.Table)
		w.names(s.Names)
	case api.DropIndex:
		w.say("DROP INDEX ", s.Name, " ON ", s.Table)
	}
}

func (w *writer) ofRole(s api.Stmt) {
	switch s.Kind {
	case api.CreateRole:
		w.say("CREATE ROLE ", s.Name)
	case api.DropRole:
		w.say("DROP ROLE ", s.Name)
	case api.GrantRole:
		w.say("GRANT ROLE ", s.Name, " TO ", s.Role)
	case api.RevokeRole:
		w.say("REVOKE ROLE ", s.Name, " FROM ", s.Role)
	case api.GrantPriv:
		w.say("GRANT ", Priv(s.Priv), " ON ", s.Table, " TO ", s.Role)
		if s.Option {
			w.say(" WITH GRANT OPTION")
		}
	case api.RevokePriv:
		w.say("REVOKE ", Priv(s.Priv), " ON ", s.Table, " FROM ", s.Role)
	}
}

func (w *writer) ofRows(s api.Stmt) {
	switch s.Kind {
	case api.Insert:
		w.insert(s)
	case api.Update:
		w.say("UPDATE ", s.Table, " SET ")
		list(w, s.Sets, w.set)
		w.where(s.Where)
	case api.Delete:
		w.say("DELETE FROM ", s.Table)
		w.where(s.Where)
	case api.Select:
		w.selects(s)
	}
}

func (w *writer) ofPlan(s api.Stmt) {
	switch s.Kind {
	case api.Prepare:
		w.say("PREPARE ", s.Name, " AS ")
		w.stmt(s.Kids[0])
	case api.Execute:
		w.say("EXECUTE ", s.Name)
		for _, row := range s.Rows {
			w.say(" ")
			w.row(row)
		}
	case api.Deallocate:
		w.say("DEALLOCATE ", s.Name)
	}
}

func (w *writer) createTable(s api.Stmt) {
	w.say("CREATE TABLE ", s.Table, " (")
	list(w, s.Cols, w.column)
	for _, cons := range s.Cons {
		w.say(", ")
		w.constraint(cons)
	}
	w.say(")")
}

func (w *writer) insert(s api.Stmt) {
	w.say("INSERT INTO ", s.Table)
	if len(s.Names) > 0 {
		w.names(s.Names)
	}
	w.say(" VALUES ")
	list(w, s.Rows, w.row)
}

func (w *writer) selects(s api.Stmt) {
	w.say("SELECT ")
	if len(s.Rows) == 0 {
		w.say("*")
	}
	for _, row := range s.Rows {
		list(w, row, w.expr)
	}
	w.say(" FROM ", s.Table)
	w.where(s.Where)
	if len(s.Order) > 0 {
		w.say(" ORDER BY ")
		list(w, s.Order, w.order)
	}
	if s.Limit != noLimit {
		w.say(" LIMIT ", strconv.Itoa(s.Limit))
	}
}

// column writes the part of a statement that it is named by, as do the functions below.
func (w *writer) column(col api.Column) {
	w.say(col.Name, " ", Type(col.Type))
	if col.NotNull {
		w.say(" NOT NULL")
	}
}

func (w *writer) constraint(cons api.Cons) {
	w.say("CONSTRAINT ", cons.Name)
	switch cons.Kind {
	case api.Unique:
		w.say(" UNIQUE")
		w.names(cons.Cols)
	case api.Check:
		w.say(" CHECK (")
		w.expr(cons.Check)
		w.say(")")
	case api.Foreign:
		w.say(" FOREIGN KEY")
		w.names(cons.Cols)
		w.say(" REFERENCES ", cons.Table)
		w.names(cons.Refs)
	}
}

// names writes a blank, and names in brackets.
func (w *writer) names(names []string) {
	w.say(" (", strings.Join(names, ", "), ")")
}

func (w *writer) row(row []api.Expr) {
	w.say("(")
	list(w, row, w.expr)
	w.say(")")
}

func (w *writer) set(set api.Set) {
	w.say(set.Name, " = ")
	w.expr(set.E)
}

// where writes an expression that may be missing.
func (w *writer) where(e api.Expr) {
	if e.Kind != 0 {
		w.say(" WHERE ")
		w.expr(e)
	}
}

func (w *writer) order(order api.Order) {
	w.expr(order.E)
	if order.Desc {
		w.say(" DESC")
	}
}

func (w *writer) expr(e api.Expr) {
	text, err := expr.Print(e)
	w.long = w.long || err != api.OK
	w.say(text)
}
