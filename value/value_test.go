package value_test

import (
	"math/big"
	"regexp"
	"slices"
	"strconv"
	"strings"
	"testing"

	"registrar/api"
	"registrar/truth"
	"registrar/value"
)

const (
	most  = 1<<63 - 1
	least = -1 << 63
)

func number(n int) api.Value { return api.Value{Kind: api.Int, N: n} }

func bit(n int) api.Value { return api.Value{Kind: api.Bool, N: n} }

func text(s string) api.Value { return api.Value{Kind: api.Text, S: s} }

// rights are right values, as they stand in the order.
func rights() []api.Value {
	return []api.Value{
		{},
		number(least), number(least + 1), number(-1 << 32), number(-10), number(-9), number(-1), number(0),
		number(1), number(9), number(10), number(1 << 32), number(most - 1), number(most),
		bit(0), bit(1),
		text(""), text(" "), text("  "), text("'"), text("''"), text("'a'"), text("-1"), text("0"), text("10"), text("9"),
		text("FALSE"), text("NULL"), text("NULLs"), text("Z"), text("a"), text("a "), text("a'b"), text("aa"), text("ab"),
		text(strings.Repeat("b", 31)), text(strings.Repeat("b", 32)), text("it's"), text(strings.Repeat("~", 32)),
	}
}

// wrongs are values that are not right, as they stand in the order.
func wrongs() []api.Value {
	return []api.Value{
		{Kind: least}, {Kind: -2, N: 1}, {Kind: -1}, {Kind: -1, N: 1}, {Kind: -1, N: 1, S: "a"},
		{N: least}, {N: -1, S: "z"}, {S: "a"}, {N: 1}, {N: most},
		{Kind: api.Int, N: -1, S: "a"}, {Kind: api.Int, S: " "}, {Kind: api.Int, S: "a"}, {Kind: api.Int, N: 1, S: "1"},
		{Kind: api.Bool, N: least}, {Kind: api.Bool, N: -1}, {Kind: api.Bool, S: "a"}, {Kind: api.Bool, N: 1, S: "a"},
		{Kind: api.Bool, N: 2}, {Kind: api.Bool, N: 1 << 32}, {Kind: api.Bool, N: 1<<32 + 1}, {Kind: api.Bool, N: most},
		{Kind: api.Text, N: least}, {Kind: api.Text, N: -1, S: "z"},
		text("\x00"), text("\n"), text("\x1f"), text("a\x00"), text(strings.Repeat("a", 33)), text("a\x7f"),
		text("a\x80"), text("a\xff"), text(strings.Repeat("b", 1000)), text("\x7f"), text("\x80"), text("é"), text("\xff"),
		{Kind: api.Text, N: 1}, {Kind: api.Text, N: 1, S: "a"}, {Kind: api.Text, N: most},
		{Kind: 4}, {Kind: 4, N: 1}, {Kind: 5}, {Kind: 1 << 32}, {Kind: 1<<32 + 1}, {Kind: 1<<32 + 3, S: "a"}, {Kind: most},
	}
}

// all are both, and none twice.
func all() []api.Value {
	return append(rights(), wrongs()...)
}

// P3.1: Right.
func TestRight(t *testing.T) {
	for _, v := range rights() {
		if !value.Right(v) {
			t.Errorf("%v is not right", v)
		}
	}
	for _, v := range wrongs() {
		if value.Right(v) {
			t.Errorf("%v is right", v)
		}
	}
}

// P3.1: each byte by itself, at each end of a text and within, is right or not.
func TestRightBytes(t *testing.T) {
	for b := range 256 {
		s := string([]byte{byte(b)})
		for _, x := range []string{s, s + "a", "a" + s, "a" + s + "a", strings.Repeat("a", 31) + s} {
			if right := value.Right(text(x)); right != (b >= 32 && b <= 126) {
				t.Errorf("that %q is right is %t", x, right)
			}
		}
	}
	for n := range 100 {
		if right := value.Right(text(strings.Repeat("a", n))); right != (n <= 32) {
			t.Errorf("that a text of %d bytes is right is %t", n, right)
		}
	}
}

// P3.1: Fits: only what is right fits, a Null each type that there is, and nothing another number.
func TestFits(t *testing.T) {
	types := []int{api.Int, api.Bool, api.Text, api.Null, -1, 4, 5, 1 << 32, 1<<32 + 1, 1<<32 + 3, most, least}
	for _, typ := range types {
		for _, v := range rights() {
			want := (typ == 1 || typ == 2 || typ == 3) && (v.Kind == 0 || v.Kind == typ)
			if fits := value.Fits(v, typ); fits != want {
				t.Errorf("that %v fits %d is %t", v, typ, fits)
			}
		}
		for _, v := range wrongs() {
			if value.Fits(v, typ) || value.Fits(v, v.Kind) {
				t.Errorf("%v fits %d, or its own kind", v, typ)
			}
		}
	}
}

// ahead tells by big numbers and runs of bytes whether a value is ahead of another one.
func ahead(a, b api.Value) bool {
	for _, x := range [][2]int{{a.Kind, b.Kind}, {a.N, b.N}} {
		if n := big.NewInt(int64(x[0])).Cmp(big.NewInt(int64(x[1]))); n != 0 {
			return n < 0
		}
	}
	return slices.Compare([]byte(a.S), []byte(b.S)) < 0
}

// stand is how two values stand, by ahead.
func stand(a, b api.Value) int {
	switch {
	case ahead(a, b):
		return -1
	case ahead(b, a):
		return 1
	}
	return 0
}

// P3.1: Order and Less of right values and of others.
func TestOrder(t *testing.T) {
	for _, a := range all() {
		for _, b := range all() {
			want := stand(a, b)
			if n := value.Order(a, b); n != want {
				t.Errorf("Order(%v, %v) is %d, want %d", a, b, n, want)
			}
			if less := value.Less(a, b); less != (want == -1) {
				t.Errorf("Less(%v, %v) is %t", a, b, less)
			}
		}
	}
}

// P3.1: right values stand as the words say: a Null, Ints and Bools by N, Texts by their bytes; what is ahead counts more.
func TestOrderOfLists(t *testing.T) {
	for _, l := range [][]api.Value{rights(), wrongs()} {
		for i := 1; i < len(l); i++ {
			if n := value.Order(l[i-1], l[i]); n != -1 {
				t.Errorf("Order(%v, %v) is %d", l[i-1], l[i], n)
			}
		}
	}
	for _, x := range []struct{ a, b api.Value }{
		{api.Value{}, number(least)}, {number(most), bit(0)}, {bit(1), text("")}, {text("~"), api.Value{Kind: 4}},
		{number(-1), number(0)}, {number(least), number(most)}, {bit(0), bit(1)},
		{text("10"), text("9")}, {text("Z"), text("a")}, {text("a"), text("a ")}, {text("~"), text("\x80")},
		{api.Value{Kind: -1, N: 9, S: "z"}, api.Value{}}, {api.Value{N: 9, S: "z"}, number(0)},
		{api.Value{Kind: 3, N: 0, S: "z"}, api.Value{Kind: 3, N: 1, S: "a"}}, {api.Value{Kind: 1, S: "a"}, api.Value{Kind: 1, S: "b"}},
	} {
		if a, b := value.Order(x.a, x.b), value.Order(x.b, x.a); a != -1 || b != 1 {
			t.Errorf("of %v and %v Order is %d, and turned round %d", x.a, x.b, a, b)
		}
	}
}

// P3.5: Order turns round, goes on, and is 0 of what is the same alone; a list put in order by it is one list.
func TestOrderIsOne(t *testing.T) {
	l := all()
	slices.Reverse(l)
	slices.SortStableFunc(l, value.Order)
	for i, a := range l {
		for j, b := range l {
			n := value.Order(a, b)
			if n != -value.Order(b, a) || (n == 0) != (a == b) {
				t.Fatalf("Order(%v, %v) is %d, turned round %d", a, b, n, value.Order(b, a))
			}
			if i < j && n != -1 {
				t.Fatalf("%v stands ahead of %v, of which Order is %d", a, b, n)
			}
		}
	}
}

// whether is what a sign says of two that stand so.
func whether(op, stand int) bool {
	says := map[int][]int{
		api.Eq: {0}, api.Ne: {-1, 1}, api.Lt: {-1}, api.Le: {-1, 0}, api.Gt: {1}, api.Ge: {0, 1},
	}
	return slices.Contains(says[op], stand)
}

// P3.2: Compare by each sign, of all that have a kind and of all that have none.
func TestCompare(t *testing.T) {
	for op := api.Eq; op <= api.Ge; op++ {
		for _, a := range all() {
			for _, b := range all() {
				want, wantErr := truth.False, api.OK
				switch {
				case a.Kind < 0 || a.Kind > 3 || b.Kind < 0 || b.Kind > 3:
					wantErr = api.ErrType
				case a.Kind == 0 || b.Kind == 0:
					want = truth.Unknown
				case a.Kind != b.Kind:
					wantErr = api.ErrType
				case whether(op, stand(a, b)):
					want = truth.True
				}
				if n, err := value.Compare(op, a, b); n != want || err != wantErr {
					t.Errorf("Compare(%d, %v, %v) is %d, %d; want %d, %d", op, a, b, n, err, want, wantErr)
				}
			}
		}
	}
}

// P3.2: a few by hand, with the numbers of the signs as they are given.
func TestCompareByHand(t *testing.T) {
	for _, x := range []struct {
		a, b api.Value
		want [6]truth.Truth // of Eq, Ne, Lt, Le, Gt, Ge
	}{
		{number(1), number(1), [6]truth.Truth{1, 0, 0, 1, 0, 1}},
		{number(-1), number(1), [6]truth.Truth{0, 1, 1, 1, 0, 0}},
		{number(most), number(least), [6]truth.Truth{0, 1, 0, 0, 1, 1}},
		{bit(0), bit(1), [6]truth.Truth{0, 1, 1, 1, 0, 0}},
		{bit(1), bit(1), [6]truth.Truth{1, 0, 0, 1, 0, 1}},
		{bit(2), bit(1), [6]truth.Truth{0, 1, 0, 0, 1, 1}},
		{text("b"), text("a"), [6]truth.Truth{0, 1, 0, 0, 1, 1}},
		{text("a"), text("aa"), [6]truth.Truth{0, 1, 1, 1, 0, 0}},
		{text(""), text(""), [6]truth.Truth{1, 0, 0, 1, 0, 1}},
		{api.Value{}, api.Value{}, [6]truth.Truth{2, 2, 2, 2, 2, 2}},
		{api.Value{}, text("a"), [6]truth.Truth{2, 2, 2, 2, 2, 2}},
		{bit(0), api.Value{}, [6]truth.Truth{2, 2, 2, 2, 2, 2}},
	} {
		for i, want := range x.want {
			if n, err := value.Compare(3+i, x.a, x.b); n != want || err != api.OK {
				t.Errorf("Compare(%d, %v, %v) is %d, %d; want %d", 3+i, x.a, x.b, n, err, want)
			}
		}
	}
}

// otherSigns are none of those that hold two values against one another.
func otherSigns() []int {
	return []int{
		0, -1, api.Or, api.And, api.Add, api.Sub, api.Mul, api.Div, api.Mod, api.Cat, 15, -api.Eq,
		1<<32 + api.Eq, 1<<32 + api.Ge, most, least,
	}
}

// P3.2: no other sign compares anything, two Nulls neither.
func TestCompareOtherSigns(t *testing.T) {
	for _, op := range otherSigns() {
		for _, a := range all() {
			for _, b := range []api.Value{{}, number(1), bit(1), text("a"), a} {
				if n, err := value.Compare(op, a, b); n != truth.False || err != api.ErrType {
					t.Errorf("Compare(%d, %v, %v) is %d, %d", op, a, b, n, err)
				}
			}
		}
	}
}

// reckoned is what a sign makes of two numbers, by big ones, and whether that is a number of 64 bits.
func reckoned(op, a, b int) (int, bool) {
	x, y, z := big.NewInt(int64(a)), big.NewInt(int64(b)), new(big.Int)
	switch op {
	case api.Add:
		z.Add(x, y)
	case api.Sub:
		z.Sub(x, y)
	case api.Mul:
		z.Mul(x, y)
	default:
		if b == 0 {
			return 0, false
		}
		z.Quo(x, y)
	}
	if !z.IsInt64() {
		return 0, false
	}
	if op == api.Mod {
		z.Rem(x, y)
	}
	return int(z.Int64()), true
}

// numbers are those near which things go wrong.
func numbers() []int {
	l := []int{3037000499, 3037000500, -3037000499, -3037000500, 12345, -12345}
	for _, n := range []int{0, most, least, 1 << 31, -1 << 31, 1 << 32, 1 << 62, -1 << 62} {
		for d := -3; d <= 3; d++ {
			l = append(l, n+d)
		}
	}
	return l
}

// P3.3: Math of Ints is num's, as an Int.
func TestMathOfNumbers(t *testing.T) {
	for op := api.Add; op <= api.Mod; op++ {
		for _, a := range numbers() {
			for _, b := range numbers() {
				want, wantErr := api.Value{}, api.ErrRange
				if n, ok := reckoned(op, a, b); ok {
					want, wantErr = number(n), api.OK
				}
				if v, err := value.Math(op, number(a), number(b)); v != want || err != wantErr {
					t.Fatalf("Math(%d, %d, %d) is %v, %d; want %v, %d", op, a, b, v, err, want, wantErr)
				}
			}
		}
	}
}

// P3.3: a few by hand, with the numbers of the signs as they are given.
func TestMathByHand(t *testing.T) {
	for _, x := range []struct {
		op   int
		a, b api.Value
		want api.Value
		err  api.Errno
	}{
		{9, number(7), number(-2), number(5), api.OK},
		{10, number(7), number(-2), number(9), api.OK},
		{11, number(7), number(-2), number(-14), api.OK},
		{12, number(-7), number(2), number(-3), api.OK},
		{13, number(-7), number(2), number(-1), api.OK},
		{12, number(1), number(0), api.Value{}, api.ErrRange},
		{13, number(1), number(0), api.Value{}, api.ErrRange},
		{9, number(most), number(1), api.Value{}, api.ErrRange},
		{9, number(0), number(0), number(0), api.OK},
		{14, text("ab"), text("cd"), text("abcd"), api.OK},
		{14, text(""), text(""), text(""), api.OK},
		{14, text(""), text("a"), text("a"), api.OK},
		{14, text("a"), text(""), text("a"), api.OK},
		{14, text("it"), text("'s"), text("it's"), api.OK},
		// What a kind has no use for tells nothing, and is not handed on.
		{9, api.Value{Kind: api.Int, N: 1, S: "a"}, number(2), number(3), api.OK},
		{14, api.Value{Kind: api.Text, N: 1, S: "a"}, api.Value{Kind: api.Text, N: 2, S: "\xff"}, text("a\xff"), api.OK},
		{9, api.Value{N: 5, S: "a"}, number(2), api.Value{}, api.OK},
	} {
		if v, err := value.Math(x.op, x.a, x.b); v != x.want || err != x.err {
			t.Errorf("Math(%d, %v, %v) is %v, %d; want %v, %d", x.op, x.a, x.b, v, err, x.want, x.err)
		}
	}
}

// P3.3: Cat makes no more than MaxText bytes, however they are dealt out.
func TestCat(t *testing.T) {
	for n := range 40 {
		for m := range 40 {
			a, b := strings.Repeat("a", n), strings.Repeat("b", m)
			want, wantErr := text(a+b), api.OK
			if n+m > 32 {
				want, wantErr = api.Value{}, api.ErrLong
			}
			if v, err := value.Math(api.Cat, text(a), text(b)); v != want || err != wantErr {
				t.Errorf("of %d and %d bytes: %v, %d; want %v, %d", n, m, v, err, want, wantErr)
			}
		}
	}
}

// P3.3: a Null makes a Null with another one and with what the sign takes, whatever that is; all else is of another type.
func TestMathOfOthers(t *testing.T) {
	for op := api.Add; op <= api.Cat; op++ {
		takes := api.Int
		if op == api.Cat {
			takes = api.Text
		}
		may := func(v api.Value) bool { return v.Kind == api.Null || v.Kind == takes }
		for _, a := range all() {
			for _, b := range all() {
				if a.Kind == takes && b.Kind == takes {
					continue
				}
				wantErr := api.OK
				if !may(a) || !may(b) {
					wantErr = api.ErrType
				}
				if v, err := value.Math(op, a, b); v != (api.Value{}) || err != wantErr {
					t.Errorf("Math(%d, %v, %v) is %v, %d; want a Null, %d", op, a, b, v, err, wantErr)
				}
			}
		}
	}
}

// P3.3: no other sign makes anything, of two Nulls neither.
func TestMathOtherSigns(t *testing.T) {
	for _, op := range []int{0, -1, 1, 2, 3, 4, 5, 6, 7, 8, 15, -9, -14, 1<<32 + 9, 1<<32 + 14, most, least} {
		for _, a := range all() {
			for _, b := range []api.Value{{}, number(1), bit(1), text("a"), a} {
				if v, err := value.Math(op, a, b); v != (api.Value{}) || err != api.ErrType {
					t.Errorf("Math(%d, %v, %v) is %v, %d", op, a, b, v, err)
				}
			}
		}
	}
}

// P3.4: Show and Read of right values.
func TestShow(t *testing.T) {
	for _, x := range []struct {
		v    api.Value
		want string
	}{
		{api.Value{}, "NULL"},
		{number(0), "0"}, {number(1), "1"}, {number(-1), "-1"}, {number(-120), "-120"},
		{number(most), "9223372036854775807"}, {number(least), "-9223372036854775808"},
		{bit(0), "FALSE"}, {bit(1), "TRUE"},
		{text(""), "''"}, {text(" "), "' '"}, {text("a"), "'a'"}, {text("it's"), "'it''s'"},
		{text("'"), "''''"}, {text("''"), "''''''"}, {text("'a"), "'''a'"}, {text("a'"), "'a'''"}, {text("a''b"), "'a''''b'"},
		{text("NULL"), "'NULL'"}, {text("1"), "'1'"}, {text("\\\""), "'\\\"'"},
		{text(strings.Repeat("a", 32)), "'" + strings.Repeat("a", 32) + "'"},
		{text(strings.Repeat("'", 32)), strings.Repeat("'", 66)},
	} {
		if s := value.Show(x.v); s != x.want {
			t.Errorf("Show(%v) is %q, want %q", x.v, s, x.want)
		}
		if v, err := value.Read(x.want); v != x.v || err != api.OK {
			t.Errorf("Read(%q) is %v, %d; want %v", x.want, v, err, x.v)
		}
	}
}

// P3.4: Show of values that are not right.
func TestShowOthers(t *testing.T) {
	for _, x := range []struct {
		v    api.Value
		want string
	}{
		{api.Value{N: 1, S: "a"}, "NULL"}, {api.Value{N: -1}, "NULL"},
		{api.Value{Kind: api.Int, N: 7, S: "a"}, "7"},
		{bit(2), "FALSE"}, {bit(-1), "FALSE"}, {bit(1<<32 + 1), "FALSE"}, {bit(most), "FALSE"},
		{api.Value{Kind: api.Bool, N: 1, S: "a"}, "TRUE"},
		{api.Value{Kind: api.Text, N: 1, S: "a"}, "'a'"},
		{text("\x00\n\xff"), "'\x00\n\xff'"}, {text("é'"), "'é'''"},
		{text(strings.Repeat("a'", 500)), "'" + strings.Repeat("a''", 500) + "'"},
		{api.Value{Kind: 4, N: 1, S: "a"}, ""}, {api.Value{Kind: -1, N: 1, S: "a"}, ""},
		{api.Value{Kind: 1<<32 + 1, N: 1}, ""}, {api.Value{Kind: 1 << 32}, ""}, {api.Value{Kind: most}, ""}, {api.Value{Kind: least}, ""},
	} {
		if s := value.Show(x.v); s != x.want {
			t.Errorf("Show(%v) is %q, want %q", x.v, s, x.want)
		}
	}
}

// P3.4: Read of texts that show nothing.
func TestReadRefuses(t *testing.T) {
	for _, s := range []string{
		"", " ", "a", "null", "Null", "NUL", "NULLL", " NULL", "NULL ", "NULL\x00",
		"true", "false", "True", "TRUE ", " FALSE", "TRU", "FALSEE", "unknown", "UNKNOWN",
		"-", "--1", "+1", "-0", "00", "01", "-01", "1 ", " 1", "1a", "1.0", "0x1", "1-", "- 1", "1_0", "١",
		"'", "'''", "'a", "a'", "'a'b'", "'a''", "''a'", "'a'''b'", "''a", "'a' ", " 'a'", "''''a", "'''''", "'a'a", "\"a\"",
		"'\x1f'", "'\x7f'", "'\n'", "'a\x80'", "'é'", "'\xff'", "'\x00'", "'a\x00",
		// What is too long, but wrong as well.
		"'" + strings.Repeat("a", 40), strings.Repeat("a", 40) + "'", "'" + strings.Repeat("a", 40) + "\n'",
		"'\x7f" + strings.Repeat("a", 40) + "'", "'" + strings.Repeat("a", 20) + "'" + strings.Repeat("a", 20) + "'",
		"'" + strings.Repeat("a", 40) + "''", strings.Repeat("'", 67), strings.Repeat("'", 1001),
		// What is no number, but wrong as well.
		"09223372036854775808", "-0999999999999999999", "99999999999999999999", "-99999999999999999999",
		"10000000000000000000", "18446744073709551616", "9223372036854775808a", "+9223372036854775808", "--9223372036854775809",
	} {
		if v, err := value.Read(s); v != (api.Value{}) || err != api.ErrForm {
			t.Errorf("Read(%q) is %v, %d", s, v, err)
		}
	}
}

// P3.4: Read of numbers of more than 64 bits, and of the last of those that there are.
func TestReadRange(t *testing.T) {
	for _, s := range []string{
		"9223372036854775808", "-9223372036854775809", "9223372036854775810", "9999999999999999999", "-9999999999999999999",
	} {
		if v, err := value.Read(s); v != (api.Value{}) || err != api.ErrRange {
			t.Errorf("Read(%q) is %v, %d", s, v, err)
		}
	}
	for _, n := range numbers() {
		if v, err := value.Read(strconv.Itoa(n)); v != number(n) || err != api.OK {
			t.Errorf("Read(%d) is %v, %d", n, v, err)
		}
	}
}

// P3.4: Read of Texts that are only too long, by their own bytes and not by those that are shown.
func TestReadLong(t *testing.T) {
	for n := range 100 {
		for _, of := range []string{"a", "'", " "} {
			s := strings.Repeat(of, n)
			want, wantErr := text(s), api.OK
			if n > 32 {
				want, wantErr = api.Value{}, api.ErrLong
			}
			shown := "'" + strings.ReplaceAll(s, "'", "''") + "'"
			if v, err := value.Read(shown); v != want || err != wantErr {
				t.Errorf("Read(%q) is %v, %d; want %v, %d", shown, v, err, want, wantErr)
			}
		}
	}
}

// each calls visit with each text of at most n of the pieces.
func each(n int, of []string, visit func(s string)) {
	var grow func(s string, n int)
	grow = func(s string, n int) {
		visit(s)
		if n > 0 {
			for _, piece := range of {
				grow(s+piece, n-1)
			}
		}
	}
	grow("", n)
}

// P3.4: of all short texts of pieces, Read takes those that are shown, and Show of what it answers is the text.
func TestReadAll(t *testing.T) {
	shown := regexp.MustCompile(`^(?s:NULL|TRUE|FALSE|0|-?[1-9][0-9]*|'([ -&(-~]|'')*')$`)
	visit := func(s string) {
		v, err := value.Read(s)
		switch {
		case !shown.MatchString(s):
			if v != (api.Value{}) || err != api.ErrForm {
				t.Fatalf("Read(%q) is %v, %d", s, v, err)
			}
		case err != api.OK || !value.Right(v) || value.Show(v) != s:
			t.Fatalf("Read(%q) is %v, %d, which is shown %q", s, v, err, value.Show(v))
		}
	}
	each(6, []string{"'", "''", "a", "1", "0", "-"}, visit)
	each(3, []string{"'", "NULL", "TRUE", "FALSE", " ", "7", "\n", "\x7f", "~"}, visit)
	for b := range 256 {
		s := string([]byte{byte(b)})
		for _, x := range []string{s, "'" + s + "'", "1" + s, "-" + s, "NULL" + s, s + "TRUE"} {
			visit(x)
		}
	}
}

// P3.5: Read of Show of a right value is it.
func TestReadOfShow(t *testing.T) {
	same := func(v api.Value) {
		if w, err := value.Read(value.Show(v)); w != v || err != api.OK {
			t.Errorf("Read(%q) is %v, %d; want %v", value.Show(v), w, err, v)
		}
	}
	for _, v := range rights() {
		same(v)
	}
	for _, n := range numbers() {
		same(number(n))
	}
	each(5, []string{"'", "a", " ", "0"}, func(s string) { same(text(s)) })
	for a := 32; a <= 126; a++ {
		for b := 32; b <= 126; b++ {
			same(text(string([]byte{byte(a), byte(b)})))
			same(text(strings.Repeat(string([]byte{byte(a), byte(b)}), 16)))
		}
	}
}
