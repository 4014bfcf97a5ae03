package exparse_test

import (
	"slices"
	"strings"
	"testing"

	"registrar/api"
	"registrar/exparse"
	"registrar/expr"
	"registrar/lex"
	"registrar/value"
)

// shape is a tree with each part in brackets, and what it is ahead of its kids.
func shape(e api.Expr) string {
	word := ""
	switch e.Kind {
	case api.Lit:
		return value.Show(e.V)
	case api.Col:
		return e.Name
	case api.Par:
		return "$" + string(rune('0'+e.Op))
	case api.Un:
		word = strings.Fields("neg not isnull notnull")[e.Op-1]
	case api.Bin:
		word = strings.Fields("or and = <> < <= > >= + - * / % ||")[e.Op-1]
	case api.In:
		word = "in"
	case api.Call:
		word = e.Name
	}
	for _, kid := range e.Kids {
		word += " " + shape(kid)
	}
	return "(" + word + ")"
}

// tokensOf are the tokens of a text, which is one of tokens alone.
func tokensOf(t *testing.T, s string) []lex.Token {
	t.Helper()
	l, _, err := lex.Tokens(s)
	if err != api.OK {
		t.Fatalf("%q has no tokens: %v", s, err)
	}
	return l
}

// many is a text so many times, with another one between each two.
func many(s, between string, n int) string {
	return strings.Repeat(s+between, n-1) + s
}

// P11.1, P11.2: each line of the grammar, and what it tells, by hand.
func TestGrammar(t *testing.T) {
	for _, x := range []struct{ s, want string }{
		{"a", "a"}, {"0", "0"}, {"9223372036854775807", "9223372036854775807"}, {"'it''s'", "'it''s'"}, {"''", "''"}, {"TRUE", "TRUE"}, {"FALSE", "FALSE"}, {"NULL", "NULL"}, {"$1", "$1"}, {"$6", "$6"},
		{"'" + many("x", "", 32) + "'", "'" + many("x", "", 32) + "'"},
		{"a OR b", "(or a b)"}, {"a AND b", "(and a b)"}, {"a = b", "(= a b)"}, {"a <> b", "(<> a b)"}, {"a < b", "(< a b)"}, {"a <= b", "(<= a b)"}, {"a > b", "(> a b)"}, {"a >= b", "(>= a b)"},
		{"a + b", "(+ a b)"}, {"a - b", "(- a b)"}, {"a || b", "(|| a b)"}, {"a * b", "(* a b)"}, {"a / b", "(/ a b)"}, {"a % b", "(% a b)"},
		{"NOT a", "(not a)"}, {"NOT NOT a", "(not (not a))"}, {"-a", "(neg a)"}, {"--a", "(neg (neg a))"}, {"- 1", "(neg 1)"}, {"a--1", "(- a (neg 1))"}, {"a - - - 1", "(- a (neg (neg 1)))"},
		{"a IS NULL", "(isnull a)"}, {"a IS NOT NULL", "(notnull a)"}, {"NULL IS NULL", "(isnull NULL)"},
		{"a IN (1)", "(in a 1)"}, {"a IN (1,2,3,4,5,6,7,8)", "(in a 1 2 3 4 5 6 7 8)"}, {"a IN (b OR c, NOT d)", "(in a (or b c) (not d))"}, {"a IN (b IN (c), (d))", "(in a (in b c) d)"},
		{"COALESCE(a)", "(coalesce a)"}, {"COALESCE(a, 1, NULL, $2)", "(coalesce a 1 NULL $2)"}, {"LENGTH('x')", "(length 'x')"}, {"ABS(-1)", "(abs (neg 1))"}, {"ABS(a OR b)", "(abs (or a b))"},
		{"COALESCE(NOT a, ABS(b), c IN (1))", "(coalesce (not a) (abs b) (in c 1))"},
		{"(a)", "a"}, {"((a))", "a"}, {"(((a OR b)))", "(or a b)"}, {"((1))+((2))", "(+ 1 2)"}, {"ABS((a))", "(abs a)"}, {"a IN ((1))", "(in a 1)"},
		{"a - b - c", "(- (- a b) c)"}, {"a - (b - c)", "(- a (- b c))"}, {"a + b - c || d", "(|| (- (+ a b) c) d)"}, {"a / b * c % d", "(% (* (/ a b) c) d)"}, {"a OR b OR c", "(or (or a b) c)"}, {"a AND (b AND c)", "(and a (and b c))"},
		{"a OR b AND c", "(or a (and b c))"}, {"(a OR b) AND c", "(and (or a b) c)"}, {"a AND b OR c", "(or (and a b) c)"}, {"NOT a AND b", "(and (not a) b)"}, {"NOT (a AND b)", "(not (and a b))"},
		{"NOT a = 1 OR b", "(or (not (= a 1)) b)"}, {"NOT a IS NULL", "(not (isnull a))"}, {"NOT a IN (1)", "(not (in a 1))"}, {"(NOT a) IS NULL", "(isnull (not a))"}, {"(NOT a) = b", "(= (not a) b)"}, {"a = (NOT b)", "(= a (not b))"},
		{"a + 1 = b || c", "(= (+ a 1) (|| b c))"}, {"a + 1 IS NULL", "(isnull (+ a 1))"}, {"a + 1 IN (2)", "(in (+ a 1) 2)"}, {"(a = b) = c", "(= (= a b) c)"}, {"a = (b = c)", "(= a (= b c))"}, {"(a IS NULL) IS NOT NULL", "(notnull (isnull a))"},
		{"a + b * c", "(+ a (* b c))"}, {"(a + b) * c", "(* (+ a b) c)"}, {"a * b + c", "(+ (* a b) c)"}, {"a * (b * c)", "(* a (* b c))"}, {"-a * b", "(* (neg a) b)"}, {"-(a * b)", "(neg (* a b))"}, {"a * -b", "(* a (neg b))"}, {"-a + b", "(+ (neg a) b)"}, {"-ABS(a)", "(neg (abs a))"}, {"-a IS NULL", "(isnull (neg a))"}, {"NOT -a", "(not (neg a))"},
		{"a=1 AND b<2 OR NOT c>=3", "(or (and (= a 1) (< b 2)) (not (>= c 3)))"}, {"\n a\n=\n1 ", "(= a 1)"},
	} {
		e, at, err := exparse.Parse(x.s)
		if err != api.OK || at != 0 || shape(e) != x.want || expr.Check(e, false) != api.OK {
			t.Errorf("Parse(%q) is %s, %d, %v, want %s", x.s, shape(e), at, err, x.want)
		}
		l := tokensOf(t, x.s)
		taken, n, err := exparse.Take(l)
		if err != api.OK || n != len(l)-1 || !expr.Same(taken, e) {
			t.Errorf("Take of the %d tokens of %q is %s, %d, %v", len(l), x.s, shape(taken), n, err)
		}
	}
}

// P11.1: an expression ends where its next token can't be a part of it, whatever stands behind.
func TestTakeAsMuchAsThereIs(t *testing.T) {
	for _, x := range []struct {
		s, want string
		n       int
	}{
		{"a b", "a", 1}, {"a FROM t", "a", 1}, {"a, b", "a", 1}, {"a)", "a", 1}, {"a (", "a", 1}, {"a NOT IN (1)", "a", 1}, {"1 'x'", "1", 1}, {"a $1", "a", 1}, {"a TRUE", "a", 1}, {"a COALESCE(", "a", 1},
		{"a + 1 WHERE", "(+ a 1)", 3}, {"a = b = c", "(= a b)", 3}, {"a < b IS NULL", "(< a b)", 3}, {"a = b IN (1)", "(= a b)", 3}, {"a IS NULL IS NULL", "(isnull a)", 3}, {"a IS NOT NULL = b", "(notnull a)", 4}, {"a IS NULL + 1", "(isnull a)", 3},
		{"a IN (1) IN (2)", "(in a 1)", 5}, {"a IN (1) = 2", "(in a 1)", 5}, {"(a) b", "a", 3}, {"ABS(a) b", "(abs a)", 4}, {"a OR b AND c DESC", "(or a (and b c))", 5}, {"NOT a NOT", "(not a)", 2}, {"-a NOT", "(neg a)", 2},
		{"a 9999999999999999999", "a", 1}, {"a '" + many("x", "", 33) + "'", "a", 1}, {"a ) + +", "a", 1},
	} {
		e, n, err := exparse.Take(tokensOf(t, x.s))
		if err != api.OK || n != x.n || shape(e) != x.want {
			t.Errorf("Take of %q is %s, %d, %v, want %s, %d", x.s, shape(e), n, err, x.want, x.n)
		}
	}
}

// mustFail holds an answer of Take or of Parse against an error and a place.
func mustFail(t *testing.T, what string, e api.Expr, at int, err api.Errno, wantAt int, want api.Errno) {
	t.Helper()
	if err != want || at != wantAt || !expr.Same(e, api.Expr{}) {
		t.Errorf("%s is %s, %d, %v, want %d, %v", what, shape(e), at, err, wantAt, want)
	}
}

// P11.1, P11.2: what no expression begins with, by the number of the token that can't stand there, and by its place.
func TestErrSay(t *testing.T) {
	for _, x := range []struct {
		s     string
		n, at int
	}{
		{"", 0, 0}, {"  ", 0, 2}, {" )", 0, 1}, {"( )", 1, 2}, {",", 0, 0}, {"= a", 0, 0}, {"+ a", 0, 0}, {"|| a", 0, 0}, {"* a", 0, 0}, {"OR a", 0, 0}, {"SELECT a", 0, 0}, {"FROM", 0, 0}, {"NULLS", 0, 0}, {"IS NULL", 0, 0}, {"IN (1)", 0, 0}, {"DESC", 0, 0},
		{"a OR", 2, 4}, {"a OR OR b", 2, 5}, {"a AND", 2, 5}, {"a AND )", 2, 6}, {"NOT", 1, 3}, {"NOT = a", 1, 4}, {"a = ", 2, 4}, {"a = NOT b", 2, 4}, {"a == b", 2, 3}, {"a < > b", 2, 4}, {"a +", 2, 3}, {"a + + b", 2, 4}, {"a + NOT b", 2, 4}, {"a * NOT b", 2, 4}, {"a *", 2, 3}, {"a ||,", 2, 4}, {"-", 1, 1}, {"- NOT a", 1, 2}, {"-)", 1, 1},
		{"a IS", 2, 4}, {"a IS b", 2, 5}, {"a IS TRUE", 2, 5}, {"a IS NOT", 3, 8}, {"a IS NOT TRUE", 3, 9}, {"a IS NOT NOT NULL", 3, 9}, {"a IS (NULL)", 2, 5},
		{"a IN", 2, 4}, {"a IN b", 2, 5}, {"a IN 1", 2, 5}, {"a IN ()", 3, 6}, {"a IN (,", 3, 6}, {"a IN (1", 4, 7}, {"a IN (1,", 5, 8}, {"a IN (1,)", 5, 8}, {"a IN (1 2)", 4, 8}, {"a IN (1,2", 6, 9}, {"a IN (1,2,3,4,5,6,7,8,9)", 18, 21}, {"a IN (1,2,3,4,5,6,7,8,", 18, 21}, {"a IN (1,2,3,4,5,6,7,8 b", 18, 22},
		{"(", 1, 1}, {"(a", 2, 2}, {"(a, b)", 2, 2}, {"(a b", 2, 3}, {"((a)", 4, 4}, {"(a = b = c)", 4, 7},
		{"COALESCE", 1, 8}, {"COALESCE a", 1, 9}, {"COALESCE()", 2, 9}, {"COALESCE(a,)", 4, 11}, {"COALESCE(a,b,c,d,e)", 9, 16}, {"COALESCE(a b)", 3, 11}, {"COALESCE(a", 3, 10}, {"LENGTH", 1, 6}, {"LENGTH()", 2, 7}, {"LENGTH(a,b)", 3, 8}, {"ABS", 1, 3}, {"ABS a", 1, 4}, {"ABS()", 2, 4}, {"ABS(1,2)", 3, 5}, {"ABS(a", 3, 5}, {"ABS(ABS)", 3, 7},
		{"a OR (b AND", 5, 11}, {"a = 1 AND b IN (2, 3", 10, 20},
	} {
		l := tokensOf(t, x.s)
		e, n, err := exparse.Take(l)
		mustFail(t, "Take of "+x.s, e, n, err, x.n, api.ErrSay)
		e, at, err := exparse.Parse(x.s)
		mustFail(t, "Parse of "+x.s, e, at, err, x.at, api.ErrSay)
	}
}

// P11.2: what stands behind an expression, by its place.
func TestParseRest(t *testing.T) {
	for _, x := range []struct {
		s  string
		at int
	}{
		{"a b", 2}, {" a\nb c", 3}, {"a)", 1}, {"(a))", 3}, {"a, b", 1}, {"a = b = c", 6}, {"a < b IS NULL", 6}, {"a NOT IN (1)", 2}, {"a IS NULL OR b c", 15}, {"ABS(1) ABS(2)", 7}, {"1 9999999999999999999", 2}, {"a DESC", 2}, {"a (b)", 2},
	} {
		e, at, err := exparse.Parse(x.s)
		mustFail(t, "Parse of "+x.s, e, at, err, x.at, api.ErrSay)
	}
}

// P11.1, P11.2: values that can't be, told where they are read: ahead of what stands behind them, behind what stands ahead.
func TestValues(t *testing.T) {
	long, short := "'"+many("x", "", 33)+"'", "'"+many("''", "", 32)+"'"
	for _, x := range []struct {
		s    string
		n    int
		want api.Errno
	}{
		{"9223372036854775808", 0, api.ErrRange}, {"-9223372036854775808", 1, api.ErrRange}, {"9999999999999999999", 0, api.ErrRange}, {"a = 9999999999999999999 )", 2, api.ErrRange}, {"a = 9999999999999999999 OR OR", 2, api.ErrRange}, {"OR 9999999999999999999", 0, api.ErrSay}, {"a OR OR 9999999999999999999", 2, api.ErrSay},
		{long, 0, api.ErrLong}, {"a || " + long, 2, api.ErrLong}, {"ABS(" + long, 2, api.ErrLong}, {"a IN (1, " + long + ", 9999999999999999999)", 5, api.ErrLong}, {"a IN (1, 9999999999999999999, " + long + ")", 5, api.ErrRange},
		{"a IN (1,2,3,4,5,6,7,8, 9999999999999999999)", 18, api.ErrSay}, {"(1 9999999999999999999", 2, api.ErrSay},
		{short + " = 9999999999999999999", 2, api.ErrRange},
	} {
		l := tokensOf(t, x.s)
		e, n, err := exparse.Take(l)
		mustFail(t, "Take of "+x.s, e, n, err, x.n, x.want)
		e, at, err := exparse.Parse(x.s)
		mustFail(t, "Parse of "+x.s, e, at, err, l[x.n].At, x.want)
	}
}

// P11.1, P11.2: what is as high as may be, and one higher; all else is told ahead of that.
func TestErrDeep(t *testing.T) {
	for _, x := range []struct {
		right, deep string
	}{
		{many("NOT ", "", 7) + "a", many("NOT ", "", 8) + "a"}, {many("-", "", 7) + "1", many("- ", "", 8) + "1"},
		{many("a", " + ", 8), many("a", " + ", 9)}, {many("a", " OR ", 8), many("a", " OR ", 9)}, {many("a", "*", 8), many("a", "*", 9)}, {many("a", " AND ", 8), many("a", " AND ", 9)},
		{many("ABS(", "", 7) + "a" + many(")", "", 7), many("ABS(", "", 8) + "a" + many(")", "", 8)},
		{many("a IN (", "", 7) + "a" + many(")", "", 7), many("a IN (", "", 8) + "a" + many(")", "", 8)},
		{many("(", "", 7) + "a" + many(" IS NULL)", "", 7), many("(", "", 8) + "a" + many(" IS NULL)", "", 8)},
		{many("a=(", "", 7) + "a" + many(")", "", 7), many("a=(", "", 8) + "a" + many(")", "", 8)},
		{many("(", "", 40) + "a" + many(")", "", 40), many("(", "", 40) + many("a", "+", 9) + many(")", "", 40)},
		{"COALESCE(1, 2, " + many("a", "-", 7) + ", 3)", "COALESCE(1, 2, " + many("a", "-", 8) + ", 3)"},
		{"b IN (1, " + many("NOT ", "", 6) + "a, 3)", "b IN (1, " + many("NOT ", "", 7) + "a, 3)"},
		{many("a", "+", 7) + " IS NULL", many("a", "+", 8) + " IS NULL"},
		{many("-", "", 6) + "a = 1", many("-", "", 7) + "a = 1"},
	} {
		e, at, err := exparse.Parse(x.right)
		if err != api.OK || at != 0 || expr.Height(e) > api.MaxDepth {
			t.Errorf("Parse(%q) is %s, %d, %v", x.right, shape(e), at, err)
		}
		for _, behind := range []string{"", " ", " b", " )", " 9999999999999999999", ", OR"} {
			e, n, err := exparse.Take(tokensOf(t, "\n "+x.deep+behind))
			mustFail(t, "Take of "+x.deep+behind, e, n, err, 0, api.ErrDeep)
			e, at, err = exparse.Parse("\n " + x.deep + behind)
			mustFail(t, "Parse of "+x.deep+behind, e, at, err, 2, api.ErrDeep)
		}
		deep := "(" + x.deep + ")"
		size := len(tokensOf(t, deep)) - 1
		for _, y := range []struct {
			behind string
			want   api.Errno
			n      int
		}{
			{" OR", api.ErrSay, size + 1}, {" = )", api.ErrSay, size + 1}, {" + 9999999999999999999", api.ErrRange, size + 1}, {" IS b", api.ErrSay, size + 1}, {" IN (1,2,3,4,5,6,7,8,9)", api.ErrSay, size + 17}, {" || '" + many("x", "", 33) + "'", api.ErrLong, size + 1},
		} {
			l := tokensOf(t, deep+y.behind)
			e, n, err := exparse.Take(l)
			mustFail(t, "Take of "+deep+y.behind, e, n, err, y.n, y.want)
			e, at, err := exparse.Parse(deep + y.behind)
			mustFail(t, "Parse of "+deep+y.behind, e, at, err, l[y.n].At, y.want)
		}
	}
}

// P11.1: tokens that may not be, whatever expression they begin with.
func TestErrArg(t *testing.T) {
	end := lex.Token{Kind: lex.End}
	a := lex.Token{Kind: lex.Name, Text: "a"}
	for i, l := range [][]lex.Token{
		nil, {}, {a}, {a, a}, {end, end}, {end, a}, {end, a, end}, {a, end, end}, {a, end, a, end}, {a, end, a},
		{{}}, {{}, end}, {a, {}, end}, {a, a, {Kind: lex.Name, Text: "A"}, end}, {a, {Kind: lex.Name}, end}, {a, {Kind: 8, Text: "a"}, end}, {a, {Kind: -1, Text: "a"}, end}, {{Kind: lex.Name, Text: "1"}, end}, {{Kind: lex.Number, Text: "a"}, end},
		{{Kind: lex.Number, Text: "01"}, end}, {{Kind: lex.Number}, end}, {{Kind: lex.Quoted, Text: "'"}, end}, {{Kind: lex.Quoted}, end}, {{Kind: lex.Param, Text: "$7"}, end}, {{Kind: lex.Param, Text: "$"}, end}, {{Kind: lex.Param}, end}, {{Kind: lex.Key, Text: "NULL "}, end}, {{Kind: lex.Sign, Text: "NULL"}, end}, {{Kind: lex.Key, Text: "("}, end}, {{Kind: lex.Sign, Text: "=="}, end},
		{{Kind: lex.Name, Text: "a", At: -1}, end}, {a, {Kind: lex.End, At: -1}}, {a, {Kind: lex.End, Text: " "}}, {a, {Kind: lex.End, Text: "a"}}, {a, {Kind: lex.Sign, Text: ")"}, {Kind: lex.Quoted, Text: "\x00"}, end},
		{{Kind: lex.Sign, Text: ")"}, {}, end}, {{Kind: lex.Number, Text: "9999999999999999999"}, {}, end}, {{Kind: lex.Number, Text: "9999999999999999999"}}, {{Kind: lex.Sign, Text: ")"}},
		append(tokensOf(t, many("NOT ", "", 9)+"a"), end), tokensOf(t, many("NOT ", "", 9)+"a")[:10],
	} {
		e, n, err := exparse.Take(l)
		if err != api.ErrArg || n != 0 || !expr.Same(e, api.Expr{}) {
			t.Errorf("Take of the list %d is %s, %d, %v", i, shape(e), n, err)
		}
	}
}

// P11.1: no more is asked of tokens: not that they are in order, nor that they are of one text.
func TestTakeAnyPlaces(t *testing.T) {
	l := tokensOf(t, "NOT a = 'x' OR $3 IN (1, ABS(b))")
	want, _, _ := exparse.Take(l)
	for i := range l {
		l[i].At = (i * 7) % 5 * (1 << 40)
	}
	e, n, err := exparse.Take(l)
	if err != api.OK || n != len(l)-1 || !expr.Same(e, want) || shape(e) != "(or (not (= a 'x')) (in $3 1 (abs b)))" {
		t.Errorf("it is %s, %d, %v", shape(e), n, err)
	}
}

// P11.2: the errors of package lex, and their places, are told ahead of all others.
func TestParseLex(t *testing.T) {
	for _, x := range []struct {
		s    string
		at   int
		want api.Errno
	}{
		{"!", 0, api.ErrWord}, {"OR OR !", 6, api.ErrWord}, {"a = 01", 4, api.ErrWord}, {"9999999999999999999 12345678901234567890", 20, api.ErrWord}, {"a 'x", 2, api.ErrWord}, {"$7", 0, api.ErrWord}, {"a = $0 !", 4, api.ErrWord}, {"a\tb", 1, api.ErrWord}, {"A1", 0, api.ErrWord}, {many("NOT ", "", 9) + "a #1", 38, api.ErrWord},
		{many("a", " ", 201), 0, api.ErrLong}, {many("!", "", 401), 0, api.ErrLong}, {many(")", " ", 120), 239, api.ErrFull}, {many("a", "+", 60) + "+", 120, api.ErrFull},
	} {
		e, at, err := exparse.Parse(x.s)
		mustFail(t, "Parse of "+x.s, e, at, err, x.at, x.want)
	}
	e, at, err := exparse.Parse(many("(", "", 59) + "a" + many(")", "", 59))
	if err != api.OK || at != 0 || shape(e) != "a" {
		t.Errorf("as many tokens as may be: %s, %d, %v", shape(e), at, err)
	}
}

// P11.1: what is handed in stays as it is, and each answer is in memory of its own.
func TestNothingShared(t *testing.T) {
	l := tokensOf(t, "COALESCE(a IN (1, 2, -b), NOT (c OR d) AND e, f + g * 'h' - ABS(i)) IS NULL")
	spare := append(slices.Grow(slices.Clone(l), 10), lex.Token{Kind: 77}, lex.Token{At: -5})
	before := slices.Clone(spare)
	e, n, err := exparse.Take(spare[:len(l)])
	if err != api.OK || n != len(l)-1 || !slices.Equal(spare, before) {
		t.Fatalf("%d, %v, %v", n, err, spare)
	}
	want, _, _ := exparse.Take(l)
	for i := range spare {
		spare[i] = lex.Token{Kind: lex.End, Text: "gone"}
	}
	if !expr.Same(e, want) {
		t.Error("a tree changes with the tokens it was made of")
	}
	var lists [][]api.Expr
	var collect func(e api.Expr)
	collect = func(e api.Expr) {
		lists = append(lists, e.Kids)
		for _, kid := range e.Kids {
			collect(kid)
		}
	}
	collect(e)
	for _, kids := range lists {
		for i := range kids[len(kids):cap(kids)] {
			kids[len(kids):cap(kids)][i] = api.Expr{Kind: 99}
		}
	}
	if !expr.Same(e, want) {
		t.Error("lists of one tree share their memory")
	}
}

// P11.1, R1: as many parts nested in one another as the bound allows, and lists of any length.
func TestGreat(t *testing.T) {
	const deep = 1 << 16
	word := func(s string) []lex.Token { return tokensOf(t, s)[:len(tokensOf(t, s))-1] }
	end := []lex.Token{{Kind: lex.End}}
	for _, x := range []struct {
		ahead, inner, behind string
		n                    int
		want                 api.Errno
	}{
		{"(", "a", ")", 2*deep + 1, api.OK}, {"(", "a", "", deep + 1, api.ErrSay}, {"(", ")", ")", deep, api.ErrSay}, {"(", "a", ") b", deep + 2, api.ErrSay},
		{"NOT", "a", "", 0, api.ErrDeep}, {"-", "a", "", 0, api.ErrDeep}, {"-", "", "", deep, api.ErrSay}, {"ABS(", "a", ")", 0, api.ErrDeep}, {"b IN (c,", "a", ")", 0, api.ErrDeep}, {"COALESCE(1,2,3,", "a", ")", 0, api.ErrDeep}, {"a OR b AND c = d + e * (", "a", ")", 0, api.ErrDeep},
		{"a +", "a", "", 0, api.ErrDeep}, {"a AND", "a", "", 0, api.ErrDeep}, {"a *", "9999999999999999999", "", 2 * deep, api.ErrRange}, {"a OR", "", "", 2 * deep, api.ErrSay}, {"", "a", "a", 1, api.OK}, {"", "a", ", b", 1, api.OK},
	} {
		l := slices.Concat(slices.Repeat(word(x.ahead), deep), word(x.inner), slices.Repeat(word(x.behind), deep), end)
		e, n, err := exparse.Take(l)
		if err != x.want || n != x.n || (err == api.OK) != (shape(e) == "a") {
			t.Errorf("Take of many %s, %s and many %s is %d, %v, want %d, %v", x.ahead, x.inner, x.behind, n, err, x.n, x.want)
		}
	}
}
