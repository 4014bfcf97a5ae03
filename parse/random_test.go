package parse_test

import (
	"reflect"
	"slices"
	"strings"
	"testing"

	"registrar/api"
	"registrar/lex"
	"registrar/parse"
	"registrar/stmt"
)

// mustBe holds Parse of a text against the model, and answers the error.
func mustBe(t *testing.T, text string) api.Errno {
	t.Helper()
	want, wantAt, wantErr := model(text)
	s, at, err := parse.Parse(text)
	if err != wantErr || at != wantAt || !stmt.Same(s, want) {
		t.Fatalf("Parse of %q is %+v, %d, %d, want %+v, %d, %d", text, s, at, err, want, wantAt, wantErr)
	}
	if err == api.OK {
		mustBeRight(t, text, s)
	} else if !reflect.ValueOf(s).IsZero() {
		t.Fatalf("Parse of %q tells %d beside %+v", text, err, s)
	}
	return err
}

// mustBeRight asks whether what a text says may be, and is read again as it was where it is printed.
func mustBeRight(t *testing.T, text string, s api.Stmt) {
	t.Helper()
	if err := stmt.Check(s); err != api.OK {
		t.Fatalf("Check of what %q says is %d", text, err)
	}
	printed, err := stmt.Print(s)
	if err == api.ErrLong {
		return
	}
	if _, wantAt, want := lex.Tokens(printed); want != api.OK {
		if _, at, err := parse.Parse(printed); at != wantAt || err != want {
			t.Fatalf("Parse of %q is %d, %d", printed, at, err)
		}
		return
	}
	again, at, err := parse.Parse(printed)
	if err != api.OK || at != 0 || !stmt.Same(again, s) {
		t.Fatalf("Parse of %q is %+v, %d, %d, want %+v", printed, again, at, err, s)
	}
}

// vocabulary are texts of tokens: all keys and signs of the chapter, and some others.
func vocabulary() []string {
	l := strings.Fields("CREATE DROP ALTER TABLE INDEX ROLE ADD COLUMN CONSTRAINT RENAME TO ON GRANT REVOKE FROM WITH OPTION INSERT INTO VALUES UPDATE SET WHERE DELETE SELECT ORDER BY DESC LIMIT PREPARE AS EXECUTE DEALLOCATE NOT NULL UNIQUE CHECK FOREIGN KEY REFERENCES INT BOOL TEXT ( ) , = * - a $1 'x' 7 10000 9999999999999999999 OR IS IN")
	return append(l, "ASC", "'"+times("x", "", 33)+"'", "("+deep+")")
}

// P13.1: all texts of two words of the vocabulary at most, and of three where the first one is a key or a name.
func TestAllShort(t *testing.T) {
	l := vocabulary()
	mustBe(t, "")
	for _, first := range l {
		mustBe(t, first)
		for _, second := range l {
			mustBe(t, first+" "+second)
			for _, third := range l {
				if first[0] >= 'A' {
					mustBe(t, first+" "+second+" "+third)
				}
			}
		}
	}
}

// P13.1, P13.2: right texts with each token changed, left out, doubled by another one, or followed by that alone.
func TestEachTokenSpoilt(t *testing.T) {
	told := map[api.Errno]int{}
	for _, x := range rights() {
		tokens, _, _ := lex.Tokens(x.text)
		var l []string
		for _, token := range tokens {
			l = append(l, token.Text)
		}
		for i := range l {
			told[mustBe(t, strings.Join(l[:i], " "))]++
			told[mustBe(t, strings.Join(slices.Delete(slices.Clone(l), i, i+1), " "))]++
			if i > 50 {
				continue
			}
			for _, word := range vocabulary() {
				told[mustBe(t, strings.Join(append(slices.Clip(l[:i]), word), " "))]++
				told[mustBe(t, strings.Join(slices.Insert(slices.Clone(l), i, word), " "))]++
				told[mustBe(t, strings.Join(slices.Replace(slices.Clone(l), i, i+1, word), " "))]++
			}
		}
	}
	for _, err := range []api.Errno{api.OK, api.ErrSay, api.ErrDeep, api.ErrRange, api.ErrLong} {
		if told[err] < 100 {
			t.Errorf("error %d was told %d times", err, told[err])
		}
	}
}

// dice are numbers that are always the same ones.
type dice struct{ seed uint32 }

// below is the next number, from 0 to n - 1.
func (d *dice) below(n int) int {
	d.seed = d.seed*1664525 + 1013904223
	return int(d.seed>>8) % n
}

// of is one of some texts.
func (d *dice) of(texts ...string) string { return texts[d.below(len(texts))] }

// some are so many texts at most, and one at least, a comma between each two; now and then one more than may be.
func (d *dice) some(most int, text func() string) string {
	n := 1 + d.below(min(most, 3))
	switch d.below(20) {
	case 0:
		n = most
	case 1:
		n = most + d.below(2)
	}
	l := []string{text()}
	for len(l) < n {
		l = append(l, text())
	}
	return strings.Join(l, d.of(", ", ","))
}

// maybe is a text, or none.
func (d *dice) maybe(text string) string { return d.of("", text) }

func (d *dice) name() string { return d.of("a", "b", "cc", "t_1", "abcdefghijkl", "from") }

func (d *dice) names(most int) string { return " (" + d.some(most, d.name) + ")" }

// expr is an expression's text, mostly a short one.
func (d *dice) expr() string {
	return d.of("a", "b", "1", "0", "NULL", "TRUE", "$1", "$6", "'it''s'", "''", "9223372036854775807", "-1", "a = b", "(a)", "a OR b AND NOT c", "(a OR b) AND c", "a IS NOT NULL", "a IN (1,2)", "a - (b - 1) * 2", "COALESCE(a,LENGTH(b))", "a || ', ('", d.of(high, deep, "'"+times("x", "", 33)+"'", "a"))
}

func (d *dice) column() string {
	return d.name() + " " + d.of("INT", "BOOL", "TEXT") + d.maybe(" NOT NULL")
}

func (d *dice) constraint() string {
	s := "CONSTRAINT " + d.name() + " "
	switch d.below(3) {
	case 0:
		return s + "UNIQUE" + d.names(3)
	case 1:
		return s + "CHECK (" + d.expr() + ")"
	}
	n := 1 + d.below(3)
	return s + "FOREIGN KEY (" + times("a", ", ", n) + ") REFERENCES " + d.name() + " (" + times(d.name(), ",", n) + ")"
}

func (d *dice) row(most int) string { return "(" + d.some(most, d.expr) + ")" }

// ofRows is the text of a statement about rows.
func (d *dice) ofRows() string {
	where := func() string { return d.maybe(" WHERE " + d.expr()) }
	switch d.below(5) {
	case 0:
		return "INSERT INTO " + d.name() + d.maybe(d.names(6)) + " VALUES " + d.some(8, func() string { return d.row(6) })
	case 1:
		return "UPDATE " + d.name() + " SET " + d.some(6, func() string { return d.name() + " = " + d.expr() }) + where()
	case 2:
		return "DELETE FROM " + d.name() + where()
	}
	order := func() string { return d.expr() + d.maybe(" DESC") }
	return "SELECT " + d.of("*", d.some(6, d.expr)) + " FROM " + d.name() + where() + d.maybe(" ORDER BY "+d.some(3, order)) + d.maybe(" LIMIT "+d.of("0", "1", "9999", "10000"))
}

// text is that of a statement of any kind, mostly a right one.
func (d *dice) text() string {
	a, b := d.name(), d.name()
	priv := d.of("SELECT", "INSERT", "UPDATE", "DELETE")
	switch d.below(9) {
	case 0, 1:
		return "CREATE TABLE " + a + " (" + d.some(6, d.column) + d.maybe(", "+d.some(6, d.constraint)) + ")"
	case 2:
		return "ALTER TABLE " + a + " " + d.of("ADD "+d.of("COLUMN "+d.column(), d.constraint()), "DROP "+d.of("COLUMN ", "CONSTRAINT ")+b, "RENAME TO "+b)
	case 3:
		return d.of("DROP TABLE "+a, "CREATE INDEX "+a+" ON "+b+d.names(3), "DROP INDEX "+a+" ON "+b, "CREATE ROLE "+a, "DROP ROLE "+a, "DEALLOCATE "+a)
	case 4:
		return d.of("GRANT ROLE "+a+" TO "+b, "REVOKE ROLE "+a+" FROM "+b, "GRANT "+priv+" ON "+a+" TO "+b+d.maybe(" WITH GRANT OPTION"), "REVOKE "+priv+" ON "+a+" FROM "+b)
	case 5:
		return "PREPARE " + a + " AS " + d.ofRows()
	case 6:
		return "EXECUTE " + a + d.maybe(" "+d.row(6))
	}
	return d.ofRows()
}

// P13.1, P13.2: random texts, as they are, and with some tokens spoilt, held against the model.
func TestRandom(t *testing.T) {
	d := &dice{seed: 13}
	told := map[api.Errno]int{}
	vocabulary := vocabulary()
	for range 20000 {
		text := d.text()
		told[mustBe(t, text)]++
		tokens, _, err := lex.Tokens(text)
		if err != api.OK {
			continue
		}
		var l []string
		for _, token := range tokens {
			l = append(l, token.Text)
		}
		for range 1 + d.below(3) {
			i := d.below(len(l))
			with := []string{vocabulary[d.below(len(vocabulary))], l[d.below(len(l))], ",", ")"}
			l = slices.Replace(l, i, min(i+d.below(2), len(l)), with[d.below(len(with))])
		}
		told[mustBe(t, strings.Join(l, " "))]++
	}
	for _, err := range []api.Errno{api.OK, api.ErrSay, api.ErrDeep, api.ErrRange, api.ErrLong} {
		if told[err] < 100 {
			t.Errorf("error %d was told %d times", err, told[err])
		}
	}
}
