package parse_test

import (
	"slices"
	"strings"

	"registrar/api"
	"registrar/exparse"
	"registrar/lex"
)

// matcher holds tokens against the chapter's table by trying all ways in which they may be read. Where none goes through, the furthest token that any came to is the first one that can't stand there.
type matcher struct {
	tokens []lex.Token
	at     int
	err    api.Errno
}

// fail ends a way. An expression's own error is told ahead of what other ways say of the token with which it begins.
func (m *matcher) fail(at int, err api.Errno) bool {
	if m.err == api.OK || at > m.at || at == m.at && err != api.ErrSay {
		m.at, m.err = at, err
	}
	return false
}

// then goes on with what a way has said so far.
type then func(at int, s api.Stmt) bool

// part is a piece of the table: it goes on by each way in which it may stand at a token.
type part func(m *matcher, at int, s api.Stmt, next then) bool

// put is a part that says something, and reads nothing.
func put(change func(s *api.Stmt)) part {
	return func(m *matcher, at int, s api.Stmt, next then) bool {
		change(&s)
		return next(at, s)
	}
}

// words are texts of tokens.
func words(texts string) part {
	return func(m *matcher, at int, s api.Stmt, next then) bool {
		for _, text := range strings.Fields(texts) {
			if m.tokens[at].Text != text {
				return m.fail(at, api.ErrSay)
			}
			at++
		}
		return next(at, s)
	}
}

// a is a name.
func a(change func(s *api.Stmt, name string)) part {
	return func(m *matcher, at int, s api.Stmt, next then) bool {
		if m.tokens[at].Kind != lex.Name {
			return m.fail(at, api.ErrSay)
		}
		change(&s, m.tokens[at].Text)
		return next(at+1, s)
	}
}

// anything is an expression.
func anything(change func(s *api.Stmt, e api.Expr)) part {
	return func(m *matcher, at int, s api.Stmt, next then) bool {
		e, n, err := exparse.Take(m.tokens[at:])
		if err != api.OK {
			return m.fail(at+n, err)
		}
		change(&s, e)
		return next(at+n, s)
	}
}

// number is that of LIMIT.
func number(m *matcher, at int, s api.Stmt, next then) bool {
	if m.tokens[at].Kind != lex.Number {
		return m.fail(at, api.ErrSay)
	}
	if len(m.tokens[at].Text) > 4 {
		return m.fail(at, api.ErrRange)
	}
	s.Limit = 0
	for _, c := range m.tokens[at].Text {
		s.Limit = s.Limit*10 + int(c-'0')
	}
	return next(at+1, s)
}

// all are parts one behind the other.
func all(parts ...part) part {
	return func(m *matcher, at int, s api.Stmt, next then) bool {
		if len(parts) == 0 {
			return next(at, s)
		}
		return parts[0](m, at, s, func(at int, s api.Stmt) bool {
			return all(parts[1:]...)(m, at, s, next)
		})
	}
}

// one is one of several parts.
func one(parts ...part) part {
	return func(m *matcher, at int, s api.Stmt, next then) bool {
		return slices.ContainsFunc(parts, func(p part) bool { return p(m, at, s, next) })
	}
}

// maybe is a part that may be missing.
func maybe(parts ...part) part {
	return one(all(parts...), all())
}

// from is so many of a part at least and at most, a comma between each two.
func from(least, most int, p part) part {
	switch {
	case most == 1:
		return p
	case least > 1:
		return all(p, words(","), from(least-1, most-1, p))
	}
	return all(p, maybe(words(","), from(1, most-1, p)))
}

// more is a list with one item more, in memory of its own.
func more[T any](l []T, item T) []T { return append(slices.Clip(l), item) }

// changed is a list whose last item has been changed, in memory of its own.
func changed[T any](l []T, change func(item *T)) []T {
	l = slices.Clone(l)
	change(&l[len(l)-1])
	return l
}

// cons changes the constraint that came last.
func cons(change func(c *api.Cons)) part {
	return put(func(s *api.Stmt) { s.Cons = changed(s.Cons, change) })
}

func table() part { return a(func(s *api.Stmt, name string) { s.Table = name }) }
func name() part  { return a(func(s *api.Stmt, name string) { s.Name = name }) }
func role() part  { return a(func(s *api.Stmt, name string) { s.Role = name }) }

// column is COLUMN.
func column() part {
	typ := func(word string, typ int) part {
		return all(words(word), put(func(s *api.Stmt) { s.Cols = changed(s.Cols, func(c *api.Column) { c.Type = typ }) }))
	}
	return all(
		a(func(s *api.Stmt, name string) { s.Cols = more(s.Cols, api.Column{Name: name}) }),
		one(typ("INT", api.Int), typ("BOOL", api.Bool), typ("TEXT", api.Text)),
		maybe(words("NOT NULL"), put(func(s *api.Stmt) { s.Cols = changed(s.Cols, func(c *api.Column) { c.NotNull = true }) })),
	)
}

// constraint is CONSTRAINT.
func constraint() part {
	kind := func(kind int) part { return cons(func(c *api.Cons) { c.Kind = kind }) }
	col := a(func(s *api.Stmt, name string) {
		s.Cons = changed(s.Cons, func(c *api.Cons) { c.Cols = more(c.Cols, name) })
	})
	ref := a(func(s *api.Stmt, name string) {
		s.Cons = changed(s.Cons, func(c *api.Cons) { c.Refs = more(c.Refs, name) })
	})
	// As many as there are columns, which only those know that have been read.
	refs := func(m *matcher, at int, s api.Stmt, next then) bool {
		n := len(s.Cons[len(s.Cons)-1].Cols)
		return from(n, n, ref)(m, at, s, next)
	}
	return all(words("CONSTRAINT"), a(func(s *api.Stmt, name string) { s.Cons = more(s.Cons, api.Cons{Name: name}) }), one(
		all(words("UNIQUE ("), kind(api.Unique), from(1, 3, col), words(")")),
		all(words("CHECK ("), kind(api.Check), anything(func(s *api.Stmt, e api.Expr) {
			s.Cons = changed(s.Cons, func(c *api.Cons) { c.Check = e })
		}), words(")")),
		all(words("FOREIGN KEY ("), kind(api.Foreign), from(1, 3, col), words(") REFERENCES"), a(func(s *api.Stmt, name string) {
			s.Cons = changed(s.Cons, func(c *api.Cons) { c.Table = name })
		}), words("("), refs, words(")")),
	))
}

// rest is what stands behind a column or a constraint of CREATE TABLE, by the chapter's words on its commas.
func rest(m *matcher, at int, s api.Stmt, next then) bool {
	if m.tokens[at].Text != "," {
		return words(")")(m, at, s, next)
	}
	isCol, isCons := m.tokens[at+1].Kind == lex.Name, m.tokens[at+1].Text == "CONSTRAINT"
	switch {
	case isCol && len(s.Cons) == 0 && len(s.Cols) == 6, isCons && len(s.Cons) == 6:
		return m.fail(at, api.ErrSay)
	case isCol && len(s.Cons) == 0:
		return all(column(), rest)(m, at+1, s, next)
	case isCons:
		return all(constraint(), rest)(m, at+1, s, next)
	}
	return m.fail(at+1, api.ErrSay)
}

// priv is PRIVILEGE.
func priv() part {
	var l []part
	for i, word := range strings.Fields("SELECT INSERT UPDATE DELETE") {
		l = append(l, all(words(word), put(func(s *api.Stmt) { s.Priv = i + 1 })))
	}
	return one(l...)
}

// namesIn are NAMES in brackets, of which there are so many at most.
func namesIn(most int) part {
	return all(words("("), from(1, most, a(func(s *api.Stmt, name string) { s.Names = more(s.Names, name) })), words(")"))
}

// values are one ANY or more, a row of Rows.
func values() part {
	return all(put(func(s *api.Stmt) { s.Rows = more(s.Rows, nil) }), from(1, 6, anything(func(s *api.Stmt, e api.Expr) {
		s.Rows = changed(s.Rows, func(r *[]api.Expr) { *r = more(*r, e) })
	})))
}

// where is WHERE, or nothing.
func where() part {
	return maybe(words("WHERE"), anything(func(s *api.Stmt, e api.Expr) { s.Where = e }))
}

// kind is a line of the table.
func kind(kind int, parts ...part) part {
	return all(put(func(s *api.Stmt) { s.Kind = kind }), all(parts...))
}

// rowKinds are the lines of the table that may be prepared.
func rowKinds() part {
	set := all(a(func(s *api.Stmt, name string) { s.Sets = more(s.Sets, api.Set{Name: name}) }), words("="), anything(func(s *api.Stmt, e api.Expr) {
		s.Sets = changed(s.Sets, func(x *api.Set) { x.E = e })
	}))
	order := all(anything(func(s *api.Stmt, e api.Expr) { s.Order = more(s.Order, api.Order{E: e}) }), maybe(words("DESC"), put(func(s *api.Stmt) {
		s.Order = changed(s.Order, func(x *api.Order) { x.Desc = true })
	})))
	return one(
		kind(api.Insert, words("INSERT INTO"), table(), maybe(namesIn(6)), words("VALUES"), from(1, 8, all(words("("), values(), words(")")))),
		kind(api.Update, words("UPDATE"), table(), words("SET"), from(1, 6, set), where()),
		kind(api.Delete, words("DELETE FROM"), table(), where()),
		kind(api.Select, put(func(s *api.Stmt) { s.Limit = -1 }), words("SELECT"), one(words("*"), values()), words("FROM"), table(), where(), maybe(words("ORDER BY"), from(1, 3, order)), maybe(words("LIMIT"), number)),
	)
}

// kinds are all lines of the table.
func kinds() part {
	ofRows := rowKinds()
	prepared := func(m *matcher, at int, s api.Stmt, next then) bool {
		return ofRows(m, at, api.Stmt{}, func(at int, kid api.Stmt) bool {
			s.Kids = []api.Stmt{kid}
			return next(at, s)
		})
	}
	option := maybe(words("WITH GRANT OPTION"), put(func(s *api.Stmt) { s.Option = true }))
	return one(
		kind(api.CreateTable, words("CREATE TABLE"), table(), words("("), column(), rest),
		kind(api.DropTable, words("DROP TABLE"), table()),
		kind(api.AddColumn, words("ALTER TABLE"), table(), words("ADD COLUMN"), column()),
		kind(api.DropColumn, words("ALTER TABLE"), table(), words("DROP COLUMN"), name()),
		kind(api.Rename, words("ALTER TABLE"), table(), words("RENAME TO"), name()),
		kind(api.AddCons, words("ALTER TABLE"), table(), words("ADD"), constraint()),
		kind(api.DropCons, words("ALTER TABLE"), table(), words("DROP CONSTRAINT"), name()),
		kind(api.CreateIndex, words("CREATE INDEX"), name(), words("ON"), table(), namesIn(3)),
		kind(api.DropIndex, words("DROP INDEX"), name(), words("ON"), table()),
		kind(api.CreateRole, words("CREATE ROLE"), name()),
		kind(api.DropRole, words("DROP ROLE"), name()),
		kind(api.GrantRole, words("GRANT ROLE"), name(), words("TO"), role()),
		kind(api.RevokeRole, words("REVOKE ROLE"), name(), words("FROM"), role()),
		kind(api.GrantPriv, words("GRANT"), priv(), words("ON"), table(), words("TO"), role(), option),
		kind(api.RevokePriv, words("REVOKE"), priv(), words("ON"), table(), words("FROM"), role()),
		ofRows,
		kind(api.Prepare, words("PREPARE"), name(), words("AS"), prepared),
		kind(api.Execute, words("EXECUTE"), name(), maybe(words("("), values(), words(")"))),
		kind(api.Deallocate, words("DEALLOCATE"), name()),
	)
}

// grammar is made once, since it is asked very often.
var grammar = kinds()

// model is what the chapter's words say of a text.
func model(text string) (api.Stmt, int, api.Errno) {
	tokens, at, err := lex.Tokens(text)
	if err != api.OK {
		return api.Stmt{}, at, err
	}
	m := &matcher{tokens: tokens}
	var read api.Stmt
	done := grammar(m, 0, api.Stmt{}, func(at int, s api.Stmt) bool {
		if tokens[at].Kind != lex.End {
			return m.fail(at, api.ErrSay)
		}
		read = s
		return true
	})
	if !done {
		return api.Stmt{}, tokens[m.at].At, m.err
	}
	return read, 0, api.OK
}
