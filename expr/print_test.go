package expr_test

import (
	"strings"
	"testing"

	"registrar/api"
	"registrar/expr"
)

// mustPrint holds Print of an expression that may be against its text.
func mustPrint(t *testing.T, e api.Expr, want string) {
	t.Helper()
	if s, err := expr.Print(e); s != want || err != api.OK {
		t.Errorf("Print is %q, %d; want %q", s, err, want)
	}
}

// P10.2: what has no kids.
func TestPrintOfOne(t *testing.T) {
	value := func(v api.Value) api.Expr { return api.Expr{Kind: api.Lit, V: v} }
	for _, x := range []struct {
		e    api.Expr
		want string
	}{
		{value(api.Value{}), "NULL"}, {value(api.Value{Kind: api.Bool}), "FALSE"}, {value(api.Value{Kind: api.Bool, N: 1}), "TRUE"},
		{lit(0), "0"}, {lit(7), "7"}, {lit(most), "9223372036854775807"},
		{value(text("")), "''"}, {value(text("a")), "'a'"}, {value(text("it's")), "'it''s'"}, {value(text(strings.Repeat("'", 32))), strings.Repeat("'", 66)},
		{col("a"), "a"}, {col("select"), "select"}, {col("abcdefghij_9"), "abcdefghij_9"},
		{par(1), "$1"}, {par(2), "$2"}, {par(6), "$6"}, {slot(0), "#0"}, {slot(1), "#1"}, {slot(5), "#5"},
	} {
		mustPrint(t, x.e, x.want)
	}
}

// P10.2: what has kids, with all signs.
func TestPrintOfKids(t *testing.T) {
	a, b := col("a"), col("b")
	for op, sign := range strings.Fields("OR AND = <> < <= > >= + - * / % ||") {
		mustPrint(t, bin(op+1, a, b), "a "+sign+" b")
		mustPrint(t, bin(op+1, par(1), slot(2)), "$1 "+sign+" #2")
	}
	for _, x := range []struct {
		e    api.Expr
		want string
	}{
		{un(1, a), "-a"}, {un(2, a), "NOT a"}, {un(3, a), "a IS NULL"}, {un(4, a), "a IS NOT NULL"}, {un(1, lit(5)), "-5"},
		{in(a, b), "a IN (b)"}, {in(a, lit(1), lit(2)), "a IN (1,2)"}, {in(some(9)...), "0 IN (1,2,3,4,5,6,7,8)"},
		{call("coalesce", a), "COALESCE(a)"}, {call("coalesce", a, b), "COALESCE(a,b)"}, {call("coalesce", some(4)...), "COALESCE(0,1,2,3)"},
		{call("length", a), "LENGTH(a)"}, {call("abs", un(1, lit(2))), "ABS(-2)"},
		{call("abs", call("length", call("coalesce", a, api.Expr{Kind: api.Lit, V: text(",")}))), "ABS(LENGTH(COALESCE(a,',')))"},
	} {
		mustPrint(t, x.e, x.want)
	}
}

// P10.3: brackets by hand.
func TestPrintOfBrackets(t *testing.T) {
	a, b, c := col("a"), col("b"), col("c")
	for _, x := range []struct {
		e    api.Expr
		want string
	}{
		{bin(api.And, bin(api.Or, a, b), c), "(a OR b) AND c"}, {bin(api.Or, bin(api.And, a, b), c), "a AND b OR c"},
		{bin(api.Or, a, bin(api.And, b, c)), "a OR b AND c"}, {bin(api.And, a, bin(api.And, b, c)), "a AND (b AND c)"},
		{bin(api.And, bin(api.And, a, b), c), "a AND b AND c"}, {bin(api.Or, a, bin(api.Or, b, c)), "a OR (b OR c)"},
		{bin(api.Sub, bin(api.Sub, a, b), c), "a - b - c"}, {bin(api.Sub, a, bin(api.Sub, b, c)), "a - (b - c)"},
		{bin(api.Cat, bin(api.Add, a, b), c), "a + b || c"}, {bin(api.Add, a, bin(api.Cat, b, c)), "a + (b || c)"},
		{bin(api.Mul, bin(api.Add, a, b), bin(api.Mod, a, c)), "(a + b) * (a % c)"}, {bin(api.Add, bin(api.Mul, a, b), bin(api.Div, b, c)), "a * b + b / c"},
		{bin(api.Eq, bin(api.Eq, a, b), c), "(a = b) = c"}, {bin(api.Eq, a, bin(api.Lt, b, c)), "a = (b < c)"},
		{bin(api.Ge, bin(api.Add, a, b), bin(api.Cat, b, c)), "a + b >= b || c"},
		{un(api.Not, bin(api.Or, a, b)), "NOT (a OR b)"}, {un(api.Not, bin(api.And, a, b)), "NOT (a AND b)"}, {un(api.Not, bin(api.Eq, a, b)), "NOT a = b"},
		{un(api.Not, un(api.Not, a)), "NOT NOT a"}, {bin(api.And, un(api.Not, a), un(api.Not, b)), "NOT a AND NOT b"},
		{bin(api.Eq, un(api.Not, a), un(api.Not, b)), "(NOT a) = (NOT b)"}, {un(api.IsNull, un(api.Not, a)), "(NOT a) IS NULL"},
		{un(api.Not, un(api.IsNull, a)), "NOT a IS NULL"}, {un(api.IsNull, un(api.NotNull, a)), "(a IS NOT NULL) IS NULL"},
		{un(api.NotNull, bin(api.Add, a, b)), "a + b IS NOT NULL"}, {un(api.NotNull, bin(api.Ne, a, b)), "(a <> b) IS NOT NULL"},
		{un(api.Neg, un(api.Neg, a)), "--a"}, {un(api.Neg, bin(api.Mul, a, b)), "-(a * b)"}, {bin(api.Mul, un(api.Neg, a), un(api.Neg, b)), "-a * -b"},
		{bin(api.Sub, a, un(api.Neg, b)), "a - -b"}, {un(api.Neg, un(api.IsNull, a)), "-(a IS NULL)"}, {un(api.Neg, in(a, b)), "-(a IN (b))"},
		{un(api.Neg, call("abs", bin(api.Or, a, b))), "-ABS(a OR b)"}, {un(api.Neg, par(1)), "-$1"},
		{in(bin(api.Or, a, b), bin(api.Or, a, b), un(api.Not, c)), "(a OR b) IN (a OR b,NOT c)"}, {in(in(a, b), in(b, c)), "(a IN (b)) IN (b IN (c))"},
		{in(bin(api.Sub, a, b), c), "a - b IN (c)"}, {bin(api.Eq, in(a, b), c), "(a IN (b)) = c"},
		{call("coalesce", bin(api.Or, a, b), un(api.Not, a), in(a, b)), "COALESCE(a OR b,NOT a,a IN (b))"},
		{bin(api.Div, bin(api.Mul, a, b), bin(api.Mul, b, c)), "a * b / (b * c)"}, {bin(api.Mod, lit(7), un(api.Neg, lit(2))), "7 % -2"},
	} {
		mustPrint(t, x.e, x.want)
	}
}

// kid is an expression with its text and its rank.
type kid struct {
	e    api.Expr
	text string
	rank int
}

// kidsOfRanks are expressions of each kind and sign, by the chapter's words.
func kidsOfRanks() []kid {
	x, y := col("x"), lit(3)
	l := []kid{
		{x, "x", 8}, {y, "3", 8}, {api.Expr{Kind: api.Lit, V: text("a b")}, "'a b'", 8}, {par(4), "$4", 8}, {slot(4), "#4", 8},
		{call("abs", x), "ABS(x)", 8}, {call("length", x), "LENGTH(x)", 8}, {call("coalesce", x, y), "COALESCE(x,3)", 8},
		{in(x, y), "x IN (3)", 4}, {un(api.Neg, x), "-x", 7}, {un(api.Not, x), "NOT x", 3}, {un(api.IsNull, x), "x IS NULL", 4}, {un(api.NotNull, x), "x IS NOT NULL", 4},
	}
	for op, rank := range ranksOfSigns() {
		l = append(l, kid{bin(op, x, y), "x " + strings.Fields("OR AND = <> < <= > >= + - * / % ||")[op-1] + " 3", rank})
	}
	return l
}

// ranksOfSigns are the ranks of the signs between two.
func ranksOfSigns() map[int]int {
	return map[int]int{
		api.Or: 1, api.And: 2, api.Eq: 4, api.Ne: 4, api.Lt: 4, api.Le: 4, api.Gt: 4, api.Ge: 4,
		api.Add: 5, api.Sub: 5, api.Cat: 5, api.Mul: 6, api.Div: 6, api.Mod: 6,
	}
}

// place is where a kid may stand: what is around it, and which rank is asked for there.
type place struct {
	with          func(e api.Expr) api.Expr
	ahead, behind string
	asked         int
}

// places are all places, by the chapter's words.
func places() []place {
	l := []place{
		{func(e api.Expr) api.Expr { return e }, "", "", 1},
		{func(e api.Expr) api.Expr { return un(api.Neg, e) }, "-", "", 7},
		{func(e api.Expr) api.Expr { return un(api.Not, e) }, "NOT ", "", 3},
		{func(e api.Expr) api.Expr { return un(api.IsNull, e) }, "", " IS NULL", 5},
		{func(e api.Expr) api.Expr { return un(api.NotNull, e) }, "", " IS NOT NULL", 5},
		{func(e api.Expr) api.Expr { return in(e, lit(1)) }, "", " IN (1)", 5},
		{func(e api.Expr) api.Expr { return in(lit(1), e) }, "1 IN (", ")", 1},
		{func(e api.Expr) api.Expr { return in(lit(1), lit(2), e, lit(3)) }, "1 IN (2,", ",3)", 1},
		{func(e api.Expr) api.Expr { return call("abs", e) }, "ABS(", ")", 1},
		{func(e api.Expr) api.Expr { return call("length", e) }, "LENGTH(", ")", 1},
		{func(e api.Expr) api.Expr { return call("coalesce", e) }, "COALESCE(", ")", 1},
		{func(e api.Expr) api.Expr { return call("coalesce", lit(1), e, lit(2)) }, "COALESCE(1,", ",2)", 1},
	}
	for op, rank := range ranksOfSigns() {
		sign := " " + strings.Fields("OR AND = <> < <= > >= + - * / % ||")[op-1] + " "
		left, right := rank, rank+1
		if rank == 4 {
			left, right = 5, 5
		}
		l = append(l,
			place{func(e api.Expr) api.Expr { return bin(op, e, lit(1)) }, "", sign + "1", left},
			place{func(e api.Expr) api.Expr { return bin(op, lit(1), e) }, "1" + sign, "", right})
	}
	return l
}

// inPlace is a kid at a place, with its text and no rank.
func inPlace(p place, k kid) kid {
	s := k.text
	if k.rank < p.asked {
		s = "(" + s + ")"
	}
	return kid{e: p.with(k.e), text: p.ahead + s + p.behind}
}

// P10.3: all kids at all places.
func TestPrintOfRanks(t *testing.T) {
	for _, p := range places() {
		for _, k := range kidsOfRanks() {
			both := inPlace(p, k)
			mustPrint(t, both.e, both.text)
			mustPrint(t, call("coalesce", both.e, k.e), "COALESCE("+both.text+","+k.text+")")
		}
	}
}

// sized is an In whose text has so many bytes, from 287 to 447.
func sized(n int) (api.Expr, string) {
	var kids []api.Expr
	var shown []string
	add := func(s string) {
		kids = append(kids, api.Expr{Kind: api.Lit, V: text(s)})
		shown = append(shown, "'"+strings.ReplaceAll(s, "'", "''")+"'")
	}
	for range 4 {
		add(strings.Repeat("'", 32))
	}
	n -= 287
	for range 5 {
		add(strings.Repeat("a", min(n, 32)))
		n -= min(n, 32)
	}
	return in(kids...), shown[0] + " IN (" + strings.Join(shown[1:], ",") + ")"
}

// mustBeLong holds Print of an expression that may be against a text, which may be too long.
func mustBeLong(t *testing.T, e api.Expr, want string) {
	t.Helper()
	if len(want) <= 400 {
		mustPrint(t, e, want)
	} else if s, err := expr.Print(e); s != "" || err != api.ErrLong {
		t.Errorf("Print of %d bytes is %q, %d", len(want), s, err)
	}
}

// P10.2: a text may have MaxSql bytes; one more is refused, whatever part the last byte is of.
func TestPrintOfLong(t *testing.T) {
	for n := 287; n <= 447; n++ {
		e, s := sized(n)
		if len(s) != n {
			t.Fatalf("a text has %d bytes, not %d", len(s), n)
		}
		mustBeLong(t, e, s)
		mustBeLong(t, un(api.IsNull, e), "("+s+") IS NULL")
		mustBeLong(t, un(api.NotNull, e), "("+s+") IS NOT NULL")
		mustBeLong(t, un(api.Neg, e), "-("+s+")")
		mustBeLong(t, un(api.Not, e), "NOT "+s)
		mustBeLong(t, in(col("abc"), e, par(1)), "abc IN ("+s+",$1)")
		mustBeLong(t, call("coalesce", lit(12), e), "COALESCE(12,"+s+")")
	}
	for _, k := range kidsOfRanks() {
		for n := 360; n <= 400; n++ {
			if e, s := sized(n); k.rank > 1 {
				mustBeLong(t, bin(api.Or, e, k.e), s+" OR "+k.text)
			}
		}
	}
}

// P10.2: Check's error comes first, also of what would be too long; slots may be.
func TestPrintRefuses(t *testing.T) {
	long, _ := sized(290)
	for _, x := range []struct {
		e    api.Expr
		want api.Errno
	}{
		{api.Expr{}, api.ErrArg}, {lit(-1), api.ErrArg}, {col("A"), api.ErrArg}, {par(0), api.ErrArg}, {par(7), api.ErrArg}, {slot(6), api.ErrArg}, {slot(-1), api.ErrArg},
		{un(5, lit(1)), api.ErrArg}, {un(1, slot(6)), api.ErrArg}, {bin(15, lit(1), lit(2)), api.ErrArg}, {in(lit(1)), api.ErrArg}, {call("sum", lit(1)), api.ErrArg},
		{in(), api.ErrArg}, {api.Expr{Kind: api.Un, Op: 1}, api.ErrArg}, {api.Expr{Kind: api.Bin, Op: 1, Kids: some(1)}, api.ErrArg},
		{in(long, long, lit(-1)), api.ErrArg}, {in(long, long), api.ErrLong}, {in(long, long, tower(7)), api.ErrLong}, {in(long, long, tower(8)), api.ErrDeep},
		{tower(9), api.ErrDeep}, {un(9, tower(8)), api.ErrDeep}, {in(tower(8), slot(9)), api.ErrDeep}, {tower(1 << 16), api.ErrDeep},
	} {
		if s, err := expr.Print(x.e); s != "" || err != x.want {
			t.Errorf("Print is %q, %d; want %d", s, err, x.want)
		}
	}
	mustPrint(t, tower(8), strings.Repeat("NOT ", 7)+"a")
	mustPrint(t, bin(api.And, slot(0), un(api.IsNull, slot(5))), "#0 AND #5 IS NULL")
}

// P10.2: what would be far too long is told without its whole text, which has half a million parts.
func TestPrintOfVast(t *testing.T) {
	kids := nineOf(api.Expr{Kind: api.Lit, V: text(strings.Repeat("'", 32))})
	for range 5 {
		kids = nineOf(in(kids...))
	}
	vast := in(kids...)
	taken := testing.AllocsPerRun(1, func() {
		if s, err := expr.Print(vast); s != "" || err != api.ErrLong {
			t.Errorf("Print is %q, %d", s, err)
		}
	})
	if taken > 1000 {
		t.Errorf("Print takes memory %v times", taken)
	}
}

// nineOf is an expression nine times.
func nineOf(e api.Expr) []api.Expr {
	l := make([]api.Expr, 9)
	for i := range l {
		l[i] = e
	}
	return l
}
