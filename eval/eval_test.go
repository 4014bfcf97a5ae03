package eval_test

import (
	"slices"
	"strings"
	"testing"

	"registrar/api"
	"registrar/eval"
	"registrar/exparse"
	"registrar/typing"
	"registrar/value"
)

const (
	most  = 1<<63 - 1
	least = -1 << 63
)

func lit(v api.Value) api.Expr { return api.Expr{Kind: api.Lit, V: v} }

func col(name string) api.Expr { return api.Expr{Kind: api.Col, Name: name} }

func par(n int) api.Expr { return api.Expr{Kind: api.Par, Op: n} }

func slot(n int) api.Expr { return api.Expr{Kind: api.Slot, Op: n} }

func un(op int, kid api.Expr) api.Expr {
	return api.Expr{Kind: api.Un, Op: op, Kids: []api.Expr{kid}}
}

func bin(op int, a, b api.Expr) api.Expr {
	return api.Expr{Kind: api.Bin, Op: op, Kids: []api.Expr{a, b}}
}

func in(kids ...api.Expr) api.Expr { return api.Expr{Kind: api.In, Kids: kids} }

func call(name string, kids ...api.Expr) api.Expr {
	return api.Expr{Kind: api.Call, Name: name, Kids: kids}
}

func number(n int) api.Value { return api.Value{Kind: api.Int, N: n} }

func text(s string) api.Value { return api.Value{Kind: api.Text, S: s} }

// The values that have no number and no text.
func null() api.Value { return api.Value{} }

func yes() api.Value { return api.Value{Kind: api.Bool, N: 1} }

func no() api.Value { return api.Value{Kind: api.Bool} }

// tower is a part under signs, so high that its height is n.
func tower(n int, e api.Expr) api.Expr {
	for range n - 1 {
		e = un(api.IsNull, e)
	}
	return e
}

// wrongs are values that are not right.
func wrongs() []api.Value {
	return []api.Value{
		{Kind: 4}, {Kind: -1}, {Kind: 9, N: 5, S: "x"}, {Kind: least}, {Kind: most}, {Kind: 1 << 32}, {N: 5}, {N: least, S: "n"}, {S: "x"},
		{Kind: api.Bool, N: 7}, {Kind: api.Bool, N: -1}, {Kind: api.Bool, N: least}, {Kind: api.Bool, S: "x"}, {Kind: api.Bool, N: 1, S: "x"},
		{Kind: api.Int, N: 3, S: "x"}, {Kind: api.Int, N: -3, S: "x"}, {Kind: api.Int, N: least, S: "y"}, {Kind: api.Text, N: 1}, {Kind: api.Text, N: 2, S: "ab"}, text("\x00"), text("a\xff"), text("\n"), text(strings.Repeat("a", 33)), text(strings.Repeat("\x00", 1000)),
	}
}

// rights are values that are.
func rights() []api.Value {
	l := []api.Value{null(), yes(), no(), text(""), text("x"), text("ab"), text("it's"), text(strings.Repeat("~", 16)), text(strings.Repeat(" ", 17)), text(strings.Repeat("b", 32))}
	for _, n := range []int{0, 1, -1, 2, -2, 3, 7, -7, 1 << 31, 3037000500, -3037000500, most, most - 1, -most, least, least + 2} {
		l = append(l, number(n))
	}
	return l
}

// mustEval holds Eval against a value, or against an error.
func mustEval(t *testing.T, e api.Expr, row, params []api.Value, want api.Value, wantErr api.Errno) {
	t.Helper()
	if got, err := eval.Eval(e, row, params); got != want || err != wantErr {
		t.Errorf("Eval(%v, %v, %v) is %v, %d, want %v, %d", e, row, params, got, err, want, wantErr)
	}
}

// mustHold holds Holds against an answer, or against an error.
func mustHold(t *testing.T, e api.Expr, row, params []api.Value, want bool, wantErr api.Errno) {
	t.Helper()
	if got, err := eval.Holds(e, row, params); got != want || err != wantErr {
		t.Errorf("Holds(%v, %v, %v) is %t, %d, want %t, %d", e, row, params, got, err, want, wantErr)
	}
}

// read is an expression's text, with places for the columns a to f.
func read(t *testing.T, s string) api.Expr {
	t.Helper()
	e, place, err := exparse.Parse(s)
	if err != api.OK {
		t.Fatalf("%s is %d at %d", s, err, place)
	}
	tab := api.Table{}
	for _, name := range strings.Split("abcdef", "") {
		tab.Cols = append(tab.Cols, api.Column{Name: name})
	}
	e, err = typing.Resolve(tab, e)
	if err != api.OK {
		t.Fatalf("%s is %d", s, err)
	}
	return e
}

// line is an expression's text, and the text of its value, or an error.
type line struct {
	s, want string
	err     api.Errno
}

// mustRead holds Eval of texts against texts of values.
func mustRead(t *testing.T, row, params []api.Value, lines []line) {
	t.Helper()
	for _, x := range lines {
		var want api.Value
		if x.err == api.OK {
			v, err := value.Read(x.want)
			if err != api.OK {
				t.Fatalf("%s is %d", x.want, err)
			}
			want = v
		}
		if got, err := eval.Eval(read(t, x.s), row, params); got != want || err != x.err {
			t.Errorf("%s is %v, %d, want %v, %d", x.s, got, err, want, x.err)
		}
	}
}

// P16.1: the chapter's examples, and signs of one kind each, by hand.
func TestEvalByHand(t *testing.T) {
	row := []api.Value{number(5), text("it's"), yes(), null(), number(least), no()}
	params := []api.Value{number(-3), text(strings.Repeat("y", 30)), null()}
	mustRead(t, row, params, []line{
		{"FALSE AND 1 / 0 = 1", "FALSE", 0}, {"TRUE AND 1 / 0 = 1", "", api.ErrRange},
		{"NULL", "NULL", 0}, {"12", "12", 0}, {"TRUE", "TRUE", 0}, {"FALSE", "FALSE", 0}, {"''", "''", 0}, {"'it''s'", "'it''s'", 0},
		{"a", "5", 0}, {"b", "'it''s'", 0}, {"c", "TRUE", 0}, {"d", "NULL", 0}, {"e", "-9223372036854775808", 0}, {"f", "FALSE", 0}, {"$1", "-3", 0}, {"$3", "NULL", 0}, {"$4", "", api.ErrCount}, {"$6", "", api.ErrCount},
		{"-a", "-5", 0}, {"-$1", "3", 0}, {"--a", "5", 0}, {"-d", "NULL", 0}, {"-e", "", api.ErrRange}, {"-b", "", api.ErrType}, {"-c", "", api.ErrType}, {"-0", "0", 0}, {"-9223372036854775807 - 1", "-9223372036854775808", 0},
		{"NOT c", "FALSE", 0}, {"NOT f", "TRUE", 0}, {"NOT d", "NULL", 0}, {"NOT a", "", api.ErrType}, {"NOT b", "", api.ErrType}, {"NOT NOT c", "TRUE", 0},
		{"a IS NULL", "FALSE", 0}, {"d IS NULL", "TRUE", 0}, {"f IS NULL", "FALSE", 0}, {"b IS NOT NULL", "TRUE", 0}, {"$3 IS NOT NULL", "FALSE", 0}, {"-e IS NULL", "", api.ErrRange}, {"-d IS NULL", "TRUE", 0},
		{"a + $1", "2", 0}, {"a - $1", "8", 0}, {"a * $1", "-15", 0}, {"a / $1", "-1", 0}, {"a % $1", "2", 0}, {"$1 / 2", "-1", 0}, {"$1 % 2", "-1", 0}, {"1 - 2 - 3", "-4", 0}, {"2 + 3 * 4", "14", 0},
		{"a + d", "NULL", 0}, {"d - a", "NULL", 0}, {"d * d", "NULL", 0}, {"a / 0", "", api.ErrRange}, {"a % 0", "", api.ErrRange}, {"d / 0", "NULL", 0}, {"e - 1", "", api.ErrRange}, {"e + e", "", api.ErrRange}, {"e * -1", "", api.ErrRange}, {"e / -1", "", api.ErrRange}, {"e % -1", "", api.ErrRange}, {"a + b", "", api.ErrType}, {"d + b", "", api.ErrType}, {"c * d", "", api.ErrType},
		{"b || '!'", "'it''s!'", 0}, {"'!' || b", "'!it''s'", 0}, {"b || d", "NULL", 0}, {"$2 || 'ab'", "'yyyyyyyyyyyyyyyyyyyyyyyyyyyyyyab'", 0}, {"$2 || 'abc'", "", api.ErrLong}, {"b || a", "", api.ErrType}, {"d || a", "", api.ErrType}, {"b || c", "", api.ErrType},
		{"a = 5", "TRUE", 0}, {"a <> 5", "FALSE", 0}, {"a < 6", "TRUE", 0}, {"a < 5", "FALSE", 0}, {"a <= 5", "TRUE", 0}, {"a <= 4", "FALSE", 0}, {"a > 4", "TRUE", 0}, {"a > 5", "FALSE", 0}, {"a >= 5", "TRUE", 0}, {"a >= 6", "FALSE", 0},
		{"b = 'it''s'", "TRUE", 0}, {"b < 'j'", "TRUE", 0}, {"c > f", "TRUE", 0}, {"a = d", "NULL", 0}, {"d <> b", "NULL", 0}, {"d = d", "NULL", 0}, {"a = b", "", api.ErrType}, {"c < a", "", api.ErrType},
		{"LENGTH(b)", "4", 0}, {"LENGTH('')", "0", 0}, {"LENGTH(d)", "NULL", 0}, {"LENGTH(a)", "", api.ErrType}, {"LENGTH(c)", "", api.ErrType}, {"ABS($1)", "3", 0}, {"ABS(a)", "5", 0}, {"ABS(0)", "0", 0}, {"ABS(d)", "NULL", 0}, {"ABS(e)", "", api.ErrRange}, {"ABS(b)", "", api.ErrType}, {"ABS(f)", "", api.ErrType},
	})
}

// P16.1: And, Or, In and coalesce by hand: what ends them, and behind which end nothing is asked.
func TestEvalOfLists(t *testing.T) {
	row := []api.Value{number(5), text("x"), yes(), null(), number(0), no()}
	mustRead(t, row, nil, []line{
		{"c AND c", "TRUE", 0}, {"c AND f", "FALSE", 0}, {"c AND d", "NULL", 0}, {"f AND c", "FALSE", 0}, {"f AND f", "FALSE", 0}, {"f AND d", "FALSE", 0}, {"d AND c", "NULL", 0}, {"d AND f", "FALSE", 0}, {"d AND d", "NULL", 0},
		{"c OR c", "TRUE", 0}, {"c OR f", "TRUE", 0}, {"c OR d", "TRUE", 0}, {"f OR c", "TRUE", 0}, {"f OR f", "FALSE", 0}, {"f OR d", "NULL", 0}, {"d OR c", "TRUE", 0}, {"d OR f", "NULL", 0}, {"d OR d", "NULL", 0},
		{"f AND 1 / e = 1", "FALSE", 0}, {"d AND 1 / e = 1", "", api.ErrRange}, {"c AND 1 / e = 1", "", api.ErrRange}, {"1 / e = 1 AND f", "", api.ErrRange}, {"f AND a", "FALSE", 0}, {"c AND a", "", api.ErrType}, {"d AND a", "", api.ErrType}, {"a AND f", "", api.ErrType}, {"a AND 1 / e = 1", "", api.ErrType}, {"b AND $1", "", api.ErrType}, {"c AND $1", "", api.ErrCount}, {"f AND $1", "FALSE", 0},
		{"c OR 1 / e = 1", "TRUE", 0}, {"d OR 1 / e = 1", "", api.ErrRange}, {"f OR 1 / e = 1", "", api.ErrRange}, {"1 / e = 1 OR c", "", api.ErrRange}, {"c OR a", "TRUE", 0}, {"f OR a", "", api.ErrType}, {"d OR a", "", api.ErrType}, {"a OR c", "", api.ErrType}, {"a OR 1 / e = 1", "", api.ErrType}, {"b OR $1", "", api.ErrType}, {"f OR $1", "", api.ErrCount}, {"c OR $1", "TRUE", 0},
		{"f AND $1 OR c", "TRUE", 0}, {"(c OR $1) AND f", "FALSE", 0}, {"c OR $1 AND $1", "TRUE", 0}, {"NOT (c OR $1)", "FALSE", 0},
		{"a IN (5)", "TRUE", 0}, {"a IN (4)", "FALSE", 0}, {"a IN (NULL)", "NULL", 0}, {"a IN (4,NULL,5)", "TRUE", 0}, {"a IN (4,NULL,6)", "NULL", 0}, {"a IN (NULL,5)", "TRUE", 0}, {"a IN (4,6)", "FALSE", 0}, {"b IN ('y','x')", "TRUE", 0}, {"f IN (c,f)", "TRUE", 0},
		{"a IN (5,1 / e)", "TRUE", 0}, {"a IN (4,1 / e)", "", api.ErrRange}, {"a IN (NULL,1 / e)", "", api.ErrRange}, {"a IN (1 / e,5)", "", api.ErrRange}, {"1 / e IN ($1)", "", api.ErrRange}, {"$1 IN (1 / e)", "", api.ErrCount}, {"a IN (5,'x')", "TRUE", 0}, {"a IN ('x',5)", "", api.ErrType}, {"a IN ('x',1 / e)", "", api.ErrType}, {"a IN (4,1 / e,'x')", "", api.ErrRange},
		{"d IN (1 / e)", "NULL", 0}, {"d IN ('x',c,1)", "NULL", 0}, {"NULL IN ($1,$2)", "NULL", 0}, {"a + d IN ($1)", "NULL", 0}, {"a IN (1,2,3,4,6,7,8,5)", "TRUE", 0}, {"a IN (1,2,3,4,6,7,8,9)", "FALSE", 0}, {"a IN (1,2,3,4,6,7,8,d)", "NULL", 0}, {"a IN (1,2,3,4,6,7,8,b)", "", api.ErrType}, {"NOT a IN (1,5)", "FALSE", 0},
		{"COALESCE(a)", "5", 0}, {"COALESCE(d)", "NULL", 0}, {"COALESCE(d,b)", "'x'", 0}, {"COALESCE(d,d,d,f)", "FALSE", 0}, {"COALESCE(d,d,d,d)", "NULL", 0}, {"COALESCE(a,1 / e)", "5", 0}, {"COALESCE(d,1 / e,a)", "", api.ErrRange}, {"COALESCE(1 / e,a)", "", api.ErrRange}, {"COALESCE(d,a,$1,1 / e)", "5", 0}, {"COALESCE(d,$1,1 / e)", "", api.ErrCount}, {"COALESCE(a,b,c)", "5", 0}, {"COALESCE(-d,a = d,b)", "'x'", 0},
	})
}

// P16.1: places of the row, and parameters: as they stand, right or not; ErrCount, where there is none.
func TestEvalOfPlaces(t *testing.T) {
	for _, v := range append(wrongs(), rights()...) {
		for n := range 8 {
			l := slices.Repeat([]api.Value{number(44)}, n)
			for i := range 6 {
				want, wantErr := null(), api.ErrCount
				if i < n {
					l[i] = v
					want, wantErr = v, api.OK
				}
				mustEval(t, slot(i), l, nil, want, wantErr)
				mustEval(t, slot(i), l, []api.Value{number(1)}, want, wantErr)
				mustEval(t, par(i+1), nil, l, want, wantErr)
				mustEval(t, par(i+1), []api.Value{number(1)}, l, want, wantErr)
				mustEval(t, slot(i), l[:0], l, null(), api.ErrCount)
				mustEval(t, par(i+1), l, l[:0], null(), api.ErrCount)
				if i < n {
					l[i] = number(44)
				}
			}
		}
	}
	long := slices.Repeat([]api.Value{number(1)}, 1<<20)
	mustEval(t, bin(api.Add, slot(5), par(6)), long, long, number(2), api.OK)
	for _, name := range []string{"a", "abs", "b"} {
		mustEval(t, col(name), long, long, null(), api.ErrNone)
		mustEval(t, un(api.IsNull, col(name)), nil, nil, null(), api.ErrNone)
	}
}

// P16.1: all values that may stand as they are.
func TestEvalOfLits(t *testing.T) {
	for _, v := range rights() {
		if v.Kind == api.Int && v.N < 0 {
			mustEval(t, lit(v), nil, nil, null(), api.ErrArg)
			continue
		}
		mustEval(t, lit(v), nil, nil, v, api.OK)
		mustEval(t, api.Expr{Kind: api.Lit, V: v, Kids: []api.Expr{}}, []api.Value{number(9)}, []api.Value{number(8)}, v, api.OK)
	}
	for _, v := range wrongs() {
		mustEval(t, lit(v), nil, nil, null(), api.ErrArg)
	}
}

// P16.1: values that are not right, under signs and in calls: a Null is what has that Kind, a Bool is true where its N is not 0, a Text has as many bytes as it has.
func TestEvalOfWrongValues(t *testing.T) {
	odd, other := []api.Value{{N: 5, S: "x"}}, []api.Value{{Kind: 9, N: 5}}
	for _, e := range []api.Expr{un(api.Neg, slot(0)), un(api.Not, slot(0)), call("abs", slot(0)), call("length", slot(0)), call("coalesce", slot(0)), call("coalesce", slot(0), slot(0)), in(slot(0), lit(yes()), col("a")), bin(api.And, slot(0), slot(0)), bin(api.Or, slot(0), slot(0)), bin(api.Add, slot(0), slot(0)), bin(api.Cat, slot(0), lit(text("x"))), bin(api.Eq, slot(0), slot(0))} {
		mustEval(t, e, odd, nil, null(), api.OK)
	}
	mustEval(t, un(api.IsNull, slot(0)), odd, nil, yes(), api.OK)
	mustEval(t, un(api.NotNull, slot(0)), odd, nil, no(), api.OK)
	for _, e := range []api.Expr{un(api.Neg, slot(0)), un(api.Not, slot(0)), call("abs", slot(0)), call("length", slot(0)), in(slot(0), lit(null())), in(lit(number(1)), slot(0)), bin(api.And, slot(0), col("a")), bin(api.Or, slot(0), col("a")), bin(api.And, lit(yes()), slot(0)), bin(api.Add, slot(0), lit(null())), bin(api.Eq, lit(null()), slot(0))} {
		mustEval(t, e, other, nil, null(), api.ErrType)
	}
	mustEval(t, un(api.IsNull, slot(0)), other, nil, no(), api.OK)
	mustEval(t, un(api.NotNull, slot(0)), other, nil, yes(), api.OK)
	mustEval(t, call("coalesce", lit(null()), slot(0), col("a")), other, nil, other[0], api.OK)
	mustEval(t, in(lit(null()), slot(0)), other, nil, null(), api.OK)
	row := []api.Value{{Kind: api.Bool, N: 7}, {Kind: api.Int, N: -3, S: "x"}, text(strings.Repeat("\xff", 1000)), {Kind: api.Bool, S: "x"}}
	for _, x := range []struct {
		e    api.Expr
		want api.Value
	}{
		{un(api.Not, slot(0)), no()}, {bin(api.And, slot(0), slot(0)), yes()}, {bin(api.Or, slot(0), col("a")), yes()}, {bin(api.Or, slot(3), slot(0)), yes()}, {un(api.Not, slot(3)), yes()}, {bin(api.And, slot(3), col("a")), no()}, {bin(api.Eq, slot(0), lit(yes())), no()}, {in(slot(0), lit(yes())), no()}, {in(slot(0), slot(0)), yes()},
		{un(api.Neg, slot(1)), number(3)}, {call("abs", slot(1)), number(3)}, {bin(api.Add, slot(1), slot(1)), number(-6)}, {bin(api.Eq, slot(1), un(api.Neg, lit(number(3)))), no()}, {call("coalesce", slot(1)), row[1]}, {call("length", slot(2)), number(1000)}, {un(api.IsNull, slot(2)), no()},
	} {
		mustEval(t, x.e, row, nil, x.want, api.OK)
	}
}

// broken are expressions that may not be, with slots or without.
func broken() []api.Expr {
	one := lit(number(1))
	return []api.Expr{
		{}, {Kind: -1}, {Kind: 9, Op: 1}, {Kind: least}, {Kind: most}, lit(number(-1)), lit(api.Value{Kind: 4}), lit(api.Value{N: 1}), col(""), col("A"), col("abcdefghijklm"), par(0), par(7), par(-1), par(least), par(most),
		slot(-1), slot(6), slot(least), slot(most), un(0, one), un(5, one), {Kind: api.Un, Op: 1}, {Kind: api.Un, Op: 1, Kids: []api.Expr{one, one}}, bin(0, one, one), bin(15, one, one), {Kind: api.Bin, Op: 1}, {Kind: api.Bin, Op: 9, Kids: []api.Expr{one}}, {Kind: api.Bin, Op: 9, Kids: []api.Expr{one, one, one}},
		in(), in(one), in(slices.Repeat([]api.Expr{one}, 10)...), call("abs"), call("length"), call("coalesce"), call("abs", one, one), call("length", one, one), call("count", one), call("", one), call("coalesce", slices.Repeat([]api.Expr{one}, 5)...),
		{Kind: api.Par, Op: 1, Kids: []api.Expr{one}}, {Kind: api.Slot, Name: "a"}, {Kind: api.Lit, Op: 1}, {Kind: api.Col, Name: "a", Op: 1},
	}
}

// P16.1 to P16.3: what may not be is told ahead of all else, also where no one would ask for it.
func TestBroken(t *testing.T) {
	values := []api.Value{number(1), text("x")}
	for _, e := range broken() {
		for _, x := range []api.Expr{e, un(api.Neg, e), bin(api.And, lit(no()), e), bin(api.Or, lit(yes()), e), bin(api.Add, col("c"), e), bin(api.Add, e, lit(text("x"))), in(lit(null()), par(6), e), in(lit(number(1)), lit(number(1)), e), call("coalesce", lit(number(1)), par(5), e), tower(7, e), bin(api.Eq, par(6), tower(6, e))} {
			mustEval(t, x, values, values, null(), api.ErrArg)
			mustHold(t, x, values, values, false, api.ErrArg)
			mustFill(t, x, values, api.Expr{}, api.ErrArg)
		}
	}
}

// P16.1 to P16.3: what is too high is told ahead of what is not right, and ahead of all else.
func TestDeep(t *testing.T) {
	values := []api.Value{yes()}
	for _, n := range []int{9, 10, 1000, 1 << 16} {
		for _, e := range []api.Expr{tower(n, lit(yes())), tower(n, col("a")), tower(n, par(1)), tower(n, par(99)), in(api.Expr{}, tower(n-1, lit(yes()))), bin(99, tower(n-1, par(6)), lit(number(-1))), bin(api.And, lit(no()), tower(n-1, lit(no()))), call("coalesce", lit(yes()), tower(n-1, slot(0)))} {
			mustEval(t, e, values, values, null(), api.ErrDeep)
			mustHold(t, e, values, values, false, api.ErrDeep)
			mustFill(t, e, values, api.Expr{}, api.ErrDeep)
		}
	}
	mustEval(t, tower(8, lit(null())), nil, nil, no(), api.OK)
	mustEval(t, tower(8, par(1)), nil, values, no(), api.OK)
	mustHold(t, tower(2, un(api.NotNull, un(api.Not, un(api.Not, un(api.Not, un(api.Not, bin(api.And, slot(0), slot(0)))))))), values, nil, false, api.OK)
}

// P16.2: conditions that hold, that do not, and what is none.
func TestHolds(t *testing.T) {
	row := []api.Value{number(5), text("x"), yes(), null(), {Kind: api.Bool, N: 7}, {Kind: 9, N: 1}}
	for _, x := range []struct {
		e    api.Expr
		want bool
		err  api.Errno
	}{
		{lit(yes()), true, 0}, {lit(no()), false, 0}, {lit(null()), false, 0}, {lit(number(1)), false, api.ErrType}, {lit(text("x")), false, api.ErrType}, {lit(number(0)), false, api.ErrType},
		{slot(0), false, api.ErrType}, {slot(1), false, api.ErrType}, {slot(2), true, 0}, {slot(3), false, 0}, {slot(4), true, 0}, {slot(5), false, api.ErrType}, {par(1), false, api.ErrCount}, {col("a"), false, api.ErrNone},
		{bin(api.Eq, slot(0), lit(number(5))), true, 0}, {bin(api.Ne, slot(0), lit(number(5))), false, 0}, {bin(api.Eq, slot(3), lit(number(5))), false, 0}, {un(api.Not, slot(3)), false, 0}, {un(api.Not, slot(2)), false, 0}, {un(api.Not, un(api.Not, slot(2))), true, 0},
		{bin(api.Add, slot(0), slot(0)), false, api.ErrType}, {bin(api.Add, slot(0), slot(3)), false, 0}, {bin(api.Div, slot(0), lit(number(0))), false, api.ErrRange}, {bin(api.Or, slot(2), par(1)), true, 0}, {bin(api.And, slot(2), par(1)), false, api.ErrCount}, {in(slot(0), lit(number(4)), lit(null())), false, 0}, {in(slot(0), lit(null()), lit(number(5))), true, 0},
		{call("coalesce", slot(3), slot(2)), true, 0}, {call("coalesce", slot(3), slot(0)), false, api.ErrType}, {call("coalesce", slot(3), slot(3)), false, 0}, {call("length", slot(1)), false, api.ErrType}, {bin(api.Cat, slot(1), lit(text(strings.Repeat("a", 32)))), false, api.ErrLong},
	} {
		mustHold(t, x.e, row, nil, x.want, x.err)
	}
	for _, v := range append(wrongs(), rights()...) {
		wantErr := api.ErrType
		if v.Kind == api.Bool || v.Kind == api.Null {
			wantErr = api.OK
		}
		mustHold(t, slot(0), []api.Value{v}, nil, v.Kind == api.Bool && v.N != 0, wantErr)
		mustHold(t, par(2), nil, []api.Value{yes(), v}, v.Kind == api.Bool && v.N != 0, wantErr)
	}
}

// P16.1: a tree that is small in memory and has very many parts comes to its value.
func TestManyParts(t *testing.T) {
	among, first, n := par(1), par(1), 1
	for range 6 {
		among, first, n = in(slices.Repeat([]api.Expr{among}, 7)...), call("coalesce", slices.Repeat([]api.Expr{first}, 4)...), 4*n
	}
	mustEval(t, among, nil, []api.Value{yes()}, yes(), api.OK)
	mustEval(t, un(api.Not, among), nil, []api.Value{null()}, null(), api.OK)
	mustEval(t, first, nil, []api.Value{null()}, null(), api.OK)
	mustEval(t, un(api.Neg, first), nil, []api.Value{number(n)}, number(-n), api.OK)
}
