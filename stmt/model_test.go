package stmt_test

import (
	"reflect"
	"regexp"
	"slices"
	"strconv"
	"strings"
	"testing"

	"registrar/api"
	"registrar/expr"
	"registrar/lex"
	"registrar/stmt"
)

// clone is the same statement, in memory of its own.
func clone(s api.Stmt) api.Stmt {
	c := reflect.New(reflect.TypeFor[api.Stmt]()).Elem()
	copyInto(c, reflect.ValueOf(s))
	return c.Interface().(api.Stmt)
}

// copyInto makes what stands at to the same as what stands at from.
func copyInto(to, from reflect.Value) {
	switch from.Kind() {
	case reflect.Struct:
		for i := range from.NumField() {
			copyInto(to.Field(i), from.Field(i))
		}
	case reflect.Slice:
		if from.IsNil() {
			return
		}
		to.Set(reflect.MakeSlice(from.Type(), from.Len(), from.Len()))
		for i := range from.Len() {
			copyInto(to.Index(i), from.Index(i))
		}
	default:
		to.Set(from)
	}
}

// texts are the chapter's table: what stands in [ ] may be missing, what is written in braces is told by model.
var texts = map[int]string{
	api.CreateTable: "CREATE TABLE {Table} ({Cols}[, {Cons}])",
	api.DropTable:   "DROP TABLE {Table}",
	api.AddColumn:   "ALTER TABLE {Table} ADD COLUMN {Cols}",
	api.DropColumn:  "ALTER TABLE {Table} DROP COLUMN {Name}",
	api.Rename:      "ALTER TABLE {Table} RENAME TO {Name}",
	api.AddCons:     "ALTER TABLE {Table} ADD {Cons}",
	api.DropCons:    "ALTER TABLE {Table} DROP CONSTRAINT {Name}",
	api.CreateIndex: "CREATE INDEX {Name} ON {Table} ({Names})",
	api.DropIndex:   "DROP INDEX {Name} ON {Table}",
	api.CreateRole:  "CREATE ROLE {Name}",
	api.DropRole:    "DROP ROLE {Name}",
	api.GrantRole:   "GRANT ROLE {Name} TO {Role}",
	api.RevokeRole:  "REVOKE ROLE {Name} FROM {Role}",
	api.GrantPriv:   "GRANT {Priv} ON {Table} TO {Role}[ WITH GRANT {Option}]",
	api.RevokePriv:  "REVOKE {Priv} ON {Table} FROM {Role}",
	api.Insert:      "INSERT INTO {Table}[ ({Names})] VALUES {Rows}",
	api.Update:      "UPDATE {Table} SET {Sets}[ WHERE {Where}]",
	api.Delete:      "DELETE FROM {Table}[ WHERE {Where}]",
	api.Select:      "SELECT {What} FROM {Table}[ WHERE {Where}][ ORDER BY {Order}][ LIMIT {Limit}]",
	api.Prepare:     "PREPARE {Name} AS {Kids}",
	api.Execute:     "EXECUTE {Name}[ {Rows}]",
	api.Deallocate:  "DEALLOCATE {Name}",
}

var (
	maybe = regexp.MustCompile(`\[[^\]]*\]`)
	holes = regexp.MustCompile(`\{\w+\}`)
)

// model is a right statement's text by the table: what a hole is filled with stands for it, and a part in [ ] is missing where that is nothing.
func model(s api.Stmt) string {
	fill := func(part string) (string, bool) {
		empty := false
		part = holes.ReplaceAllStringFunc(part, func(hole string) string {
			text := filling(s, strings.Trim(hole, "{}"))
			empty = empty || text == ""
			return text
		})
		return part, empty
	}
	// What is in [ ] is taken out, lest a text with such bytes be taken for it.
	text, at := "", 0
	for _, span := range maybe.FindAllStringIndex(texts[s.Kind], -1) {
		ahead, _ := fill(texts[s.Kind][at:span[0]])
		part, empty := fill(texts[s.Kind][span[0]+1 : span[1]-1])
		if empty {
			part = ""
		}
		text, at = text+ahead+part, span[1]
	}
	rest, _ := fill(texts[s.Kind][at:])
	return text + rest
}

// joined are the texts of items, with a comma and a blank between each two.
func joined[T any](items []T, text func(T) string) string {
	var l []string
	for _, item := range items {
		l = append(l, text(item))
	}
	return strings.Join(l, ", ")
}

// anyText is an expression's text.
func anyText(e api.Expr) string {
	s, _ := expr.Print(e)
	return s
}

// filling is what a field says; nothing, if there is nothing.
func filling(s api.Stmt, field string) string {
	bracketed := func(l []api.Expr) string { return "(" + joined(l, anyText) + ")" }
	switch field {
	case "Cols":
		return joined(s.Cols, func(c api.Column) string {
			return c.Name + " " + []string{"", "INT", "BOOL", "TEXT"}[c.Type] + map[bool]string{true: " NOT NULL"}[c.NotNull]
		})
	case "Cons":
		return joined(s.Cons, func(c api.Cons) string {
			return "CONSTRAINT " + c.Name + " " + []string{
				"", "UNIQUE (" + strings.Join(c.Cols, ", ") + ")", "CHECK (" + anyText(c.Check) + ")",
				"FOREIGN KEY (" + strings.Join(c.Cols, ", ") + ") REFERENCES " + c.Table + " (" + strings.Join(c.Refs, ", ") + ")",
			}[c.Kind]
		})
	case "Names":
		return strings.Join(s.Names, ", ")
	case "Rows":
		return joined(s.Rows, bracketed)
	case "What":
		if len(s.Rows) == 0 {
			return "*"
		}
		return joined(s.Rows[0], anyText)
	case "Where":
		return anyText(s.Where)
	case "Sets":
		return joined(s.Sets, func(x api.Set) string { return x.Name + " = " + anyText(x.E) })
	case "Order":
		return joined(s.Order, func(x api.Order) string { return anyText(x.E) + map[bool]string{true: " DESC"}[x.Desc] })
	case "Limit":
		return map[bool]string{true: strconv.Itoa(s.Limit)}[s.Limit >= 0]
	case "Priv":
		return []string{"", "SELECT", "INSERT", "UPDATE", "DELETE"}[s.Priv]
	case "Option":
		return map[bool]string{true: "OPTION"}[s.Option]
	case "Kids":
		return joined(s.Kids, model)
	}
	return reflect.ValueOf(s).FieldByName(field).String()
}

// height is an expression's.
func height(e api.Expr) int {
	n := 0
	for _, kid := range e.Kids {
		n = max(n, height(kid))
	}
	return n + 1
}

// lowered is a statement with Lits of Null in the place of all expressions that are too high, and whether there was one.
func lowered(s api.Stmt) (api.Stmt, bool) {
	s = clone(s)
	deep := false
	var lower func(v reflect.Value)
	lower = func(v reflect.Value) {
		switch {
		case v.Type() == reflect.TypeFor[api.Expr]():
			if height(v.Interface().(api.Expr)) > 8 {
				v.Set(reflect.ValueOf(null()))
				deep = true
			}
		case v.Kind() == reflect.Struct:
			for i := range v.NumField() {
				lower(v.Field(i))
			}
		case v.Kind() == reflect.Slice:
			for i := range v.Len() {
				lower(v.Index(i))
			}
		}
	}
	lower(reflect.ValueOf(&s).Elem())
	return s, deep
}

// allOf asks whether a list has so many items at least and at most, all of which are right.
func allOf[T any](l []T, least, most int, right func(T) bool) bool {
	return len(l) >= least && len(l) <= most && !slices.ContainsFunc(l, func(item T) bool { return !right(item) })
}

// isNothing asks for an expression of Kind 0 without anything.
func isNothing(e api.Expr) bool {
	return e.Kind == 0 && e.Op == 0 && e.V == api.Value{} && e.Name == "" && len(e.Kids) == 0
}

// isExpr asks whether an expression that is not too high is right.
func isExpr(e api.Expr) bool { return expr.Check(e, false) == api.OK }

// isCons asks whether a constraint is right.
func isCons(c api.Cons) bool {
	noCheck := isNothing(c.Check)
	key := func(l []string) bool { return allOf(l, 1, 3, lex.IsName) }
	switch c.Kind {
	case api.Unique:
		return lex.IsName(c.Name) && key(c.Cols) && noCheck && c.Table == "" && len(c.Refs) == 0
	case api.Check:
		return lex.IsName(c.Name) && isExpr(c.Check) && len(c.Cols)+len(c.Refs)+len(c.Table) == 0
	}
	return c.Kind == api.Foreign && lex.IsName(c.Name) && key(c.Cols) && key(c.Refs) && len(c.Cols) == len(c.Refs) && lex.IsName(c.Table) && noCheck
}

// isField asks whether a field that a kind has is right.
func isField(s api.Stmt, name string, least, most int) bool {
	switch name {
	case "Table", "Name", "Role":
		return lex.IsName(reflect.ValueOf(s).FieldByName(name).String())
	case "Cols":
		return allOf(s.Cols, least, most, func(c api.Column) bool { return lex.IsName(c.Name) && c.Type >= 1 && c.Type <= 3 })
	case "Cons":
		return allOf(s.Cons, least, most, isCons)
	case "Names":
		return allOf(s.Names, least, most, lex.IsName)
	case "Rows":
		return allOf(s.Rows, least, most, func(l []api.Expr) bool { return allOf(l, 1, 6, isExpr) })
	case "Where":
		return isNothing(s.Where) || isExpr(s.Where)
	case "Sets":
		return allOf(s.Sets, least, most, func(x api.Set) bool { return lex.IsName(x.Name) && isExpr(x.E) })
	case "Order":
		return allOf(s.Order, least, most, func(x api.Order) bool { return isExpr(x.E) })
	case "Limit":
		return s.Limit >= -1 && s.Limit <= 9999
	case "Priv":
		return s.Priv >= 1 && s.Priv <= 4
	case "Kids":
		return allOf(s.Kids, least, most, func(k api.Stmt) bool { return k.Kind >= api.Insert && k.Kind <= api.Select && isRight(k) })
	}
	return name == "Option"
}

// isRight asks whether a statement without expressions that are too high is right.
func isRight(s api.Stmt) bool {
	for _, name := range fieldNames() {
		least, most, has := field(s.Kind, name)
		f := reflect.ValueOf(s).FieldByName(name)
		empty := f.IsZero() || f.Kind() == reflect.Slice && f.Len() == 0 || name == "Where" && isNothing(s.Where)
		if has && !isField(s, name, least, most) || !has && !empty {
			return false
		}
	}
	return fields[s.Kind] != ""
}

// modelCheck is what Check answers, by the chapter's last words on it.
func modelCheck(s api.Stmt) api.Errno {
	low, deep := lowered(s)
	switch {
	case !isRight(low):
		return api.ErrArg
	case deep:
		return api.ErrDeep
	}
	return api.OK
}

// dice are numbers that are always the same ones.
type dice struct{ seed uint32 }

// below is the next number, from 0 to n - 1.
func (d *dice) below(n int) int {
	d.seed = d.seed*1664525 + 1013904223
	return int(d.seed>>8) % n
}

// word is a name.
func (d *dice) word() string {
	return []string{"a", "b", "cc", "t_1", "abcdefghijkl", "x"}[d.below(6)]
}

// tree is a right expression, mostly a low one.
func (d *dice) tree(height int) api.Expr {
	if height == 1 || d.below(3) == 0 {
		return []api.Expr{lit(d.below(100)), col(d.word()), par(1 + d.below(6)), text("it's [x] {Where}, "), null()}[d.below(5)]
	}
	switch d.below(4) {
	case 0:
		return un(1+d.below(4), d.tree(height-1))
	case 1:
		return in(d.tree(height-1), d.tree(height-1), d.tree(height-1))
	}
	return bin(1+d.below(14), d.tree(height-1), d.tree(height-1))
}

// many are so many things at least and at most.
func many[T any](d *dice, least, most int, one func() T) []T {
	var l []T
	for range least + d.below(most-least+1) {
		l = append(l, one())
	}
	return l
}

// cons is a right constraint.
func (d *dice) cons() api.Cons {
	n := 1 + d.below(3)
	l := many(d, n, n, d.word)
	switch d.below(3) {
	case 0:
		return unique(d.word(), l...)
	case 1:
		return check(d.word(), d.tree(3))
	}
	return foreign(d.word(), d.word(), l, many(d, n, n, d.word))
}

// set puts something right into a field that a kind has.
func (d *dice) set(s *api.Stmt, name string, least, most int) {
	e := func() api.Expr { return d.tree(3) }
	switch name {
	case "Table", "Name", "Role":
		reflect.ValueOf(s).Elem().FieldByName(name).SetString(d.word())
	case "Cols":
		s.Cols = many(d, least, most, func() api.Column {
			return api.Column{Name: d.word(), Type: 1 + d.below(3), NotNull: d.below(2) == 0}
		})
	case "Cons":
		s.Cons = many(d, least, most, d.cons)
	case "Names":
		s.Names = many(d, least, most, d.word)
	case "Rows":
		s.Rows = many(d, least, most, func() []api.Expr { return many(d, 1, 6, e) })
	case "Where":
		if d.below(2) == 0 {
			s.Where = d.tree(4)
		}
	case "Sets":
		s.Sets = many(d, least, most, func() api.Set { return api.Set{Name: d.word(), E: e()} })
	case "Order":
		s.Order = many(d, least, most, func() api.Order { return api.Order{E: e(), Desc: d.below(2) == 0} })
	case "Limit":
		s.Limit = d.below(12) - 1
	case "Priv":
		s.Priv = 1 + d.below(4)
	case "Option":
		s.Option = d.below(2) == 0
	case "Kids":
		s.Kids = many(d, least, most, func() api.Stmt { return d.stmt(api.Insert + d.below(4)) })
	}
}

// stmt is a right statement of a kind.
func (d *dice) stmt(kind int) api.Stmt {
	s := api.Stmt{Kind: kind}
	for _, name := range fieldNames() {
		if least, most, has := field(kind, name); has {
			d.set(&s, name, least, most)
		}
	}
	return s
}

// P12.1 to P12.3: random right statements, held against the model.
func TestRandomRight(t *testing.T) {
	d := &dice{seed: 12}
	short := 0
	for i := range 22000 {
		s := d.stmt(1 + i%22)
		kept := clone(s)
		if err := stmt.Check(s); err != api.OK {
			t.Fatalf("Check of %+v is %d", s, err)
		}
		want, wantErr := model(s), api.OK
		if len(want) > 400 {
			want, wantErr = "", api.ErrLong
		} else {
			short++
		}
		got, err := stmt.Print(s)
		if got != want || err != wantErr {
			t.Fatalf("Print is %q, %d; want %q, %d", got, err, want, wantErr)
		}
		if n := stmt.Params(s); err == api.OK && n != greatest(got) {
			t.Fatalf("Params of %q is %d", got, n)
		}
		if !stmt.Same(s, kept) || !reflect.DeepEqual(s, kept) {
			t.Fatalf("%q was changed", want)
		}
	}
	if short < 15000 {
		t.Errorf("%d texts are short", short)
	}
}

// greatest is the greatest parameter that stands in a text.
func greatest(s string) int {
	n := 0
	for i, c := range s {
		if c == '$' {
			n = max(n, int(s[i+1]-'0'))
		}
	}
	return n
}

// spoil changes something at random: a number, a text, a truth, a list, or an expression as a whole.
func (d *dice) spoil(s *api.Stmt) {
	var spots []reflect.Value
	var gather func(v reflect.Value)
	gather = func(v reflect.Value) {
		if v.Type() == reflect.TypeFor[api.Expr]() {
			spots = append(spots, v, v, v)
		}
		switch v.Kind() {
		case reflect.Struct:
			for i := range v.NumField() {
				gather(v.Field(i))
			}
			return
		case reflect.Slice:
			for i := range v.Len() {
				gather(v.Index(i))
			}
		}
		spots = append(spots, v)
	}
	gather(reflect.ValueOf(s).Elem())
	v := spots[d.below(len(spots))]
	if v.Type() == reflect.TypeFor[api.Expr]() {
		l := []api.Expr{{}, null(), tower(8), tower(9), in(tower(8), par(7)), par(7), {Kind: api.Slot}, {Op: 1}, {Kids: row(tower(8))}}
		v.Set(reflect.ValueOf(l[d.below(len(l))]))
		return
	}
	switch v.Kind() {
	case reflect.Int:
		v.SetInt(int64([]int{0, 1, 2, 3, 4, 5, -1, 9999, 10000, 15, 23}[d.below(11)]))
	case reflect.String:
		v.SetString([]string{"", "a", "A", "abcdefghijklm"}[d.below(4)])
	case reflect.Bool:
		v.SetBool(!v.Bool())
	case reflect.Slice:
		if v.Len() > 0 && d.below(2) == 0 {
			v.Set(v.Slice(0, d.below(v.Len())))
			return
		}
		l := reflect.MakeSlice(v.Type(), 0, 0)
		for range 1 + d.below(3) {
			l = reflect.AppendSlice(l, v)
		}
		if v.Len() == 0 || d.below(3) == 0 {
			l = reflect.Append(l, reflect.Zero(v.Type().Elem()))
		}
		v.Set(l)
	}
}

// P12.1, P12.2: random statements with something spoilt, held against the model.
func TestRandomSpoilt(t *testing.T) {
	d := &dice{seed: 120}
	told := map[api.Errno]int{}
	for i := range 66000 {
		s := d.stmt(1 + i%22)
		for range 1 + d.below(3) {
			s = clone(s)
			d.spoil(&s)
		}
		want := modelCheck(s)
		if err := stmt.Check(s); err != want {
			t.Fatalf("Check of %+v is %d, want %d", s, err, want)
		}
		told[want]++
		text, err := stmt.Print(s)
		switch {
		case want != api.OK:
			if text != "" || err != want {
				t.Fatalf("Print of %+v is %q, %d; want %d", s, text, err, want)
			}
		case len(model(s)) > 400:
			if text != "" || err != api.ErrLong {
				t.Fatalf("Print of %+v is %q, %d", s, text, err)
			}
		case text != model(s) || err != api.OK:
			t.Fatalf("Print of %+v is %q, %d; want %q", s, text, err, model(s))
		}
	}
	for _, err := range []api.Errno{api.OK, api.ErrArg, api.ErrDeep} {
		if told[err] < 1000 {
			t.Errorf("error %d was told %d times", err, told[err])
		}
	}
}

// P12.2: a text is cut into tokens, and its expressions stand in it as they are written alone.
func TestPrintIsTokens(t *testing.T) {
	for _, x := range rights() {
		text, _ := stmt.Print(x.s)
		if l, at, err := lex.Tokens(text); err != api.OK || len(l) < 3 {
			t.Errorf("Tokens of %q tell %d at %d", text, err, at)
		}
	}
}
