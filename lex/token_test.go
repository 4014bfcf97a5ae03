package lex_test

import (
	"strings"
	"testing"

	"registrar/api"
	"registrar/lex"
	"registrar/value"
)

// rights are texts of tokens, by their kinds.
func rights() map[int][]string {
	return map[int][]string{
		lex.Name:   {"a", "z", "a_", "a1", "abc", "a__1", "select", bytesOf("n", 11), bytesOf("n", 12)},
		lex.Key:    {"A", "Z", "A_", "SELECT", "NULL", "TRUE", "FALSE", "TRUES", "NUL", "A_B_C", bytesOf("K", 15), bytesOf("K", 16)},
		lex.Number: {"0", "1", "9", "10", "9223372036854775807", "9223372036854775808", bytesOf("9", 19)},
		lex.Quoted: {"''", "' '", "'a'", "''''", "'it''s'", "'\"~'", "'" + bytesOf("a", 32) + "'", "'" + bytesOf("a", 33) + "'", "'" + bytesOf("''", 5000) + "'"},
		lex.Param:  {"$1", "$2", "$3", "$4", "$5", "$6"},
		lex.Sign:   {"(", ")", ",", "=", "<>", "<", "<=", ">", ">=", "+", "-", "*", "/", "%", "||"},
		lex.End:    {""},
	}
}

// wrongs are texts that are none of a token of any kind.
func wrongs() []string {
	return []string{
		" ", "\n", "a ", " a", "a\n", "A\n", "1\n", "'a'\n", "$1\n", "(\n", "a b", "aB", "Aa", "A1", "a$", "1a", "01", "00", "-1", "+1", "1.0", "_", "_a", "_A", "1_",
		"$", "$0", "$7", "$10", "$a", "$$", "a1$", "'", "'''", "'a", "a'", "'a''", "'a'b'", "'''''", "'a' ", " 'a'", "'a''b'c'", "'a'''b'", "'\n'", "'\x1f'", "'\x7f'", "'\x80'",
		"|", "|||", "!", "!=", "==", "<<", "><", "=<", "<=>", "((", "--", "#", "#1", ";", ".", "\t", "\x00", "\xff", "é", "aé", "a\x00", "0x1", "1e5",
		bytesOf("n", 13), bytesOf("n", 1000), bytesOf("K", 17), bytesOf("K", 1000), bytesOf("9", 20), bytesOf("1", 1000), bytesOf("a", 401),
	}
}

// otherKinds are numbers of no kind.
func otherKinds() []int {
	return []int{0, 8, -1, 9, 257, 1<<32 + 1, most, least}
}

// places are places that may be; what stands there is not asked.
func places() []int { return []int{0, 1, 399, 400, 401, most} }

// P9.2: Right and IsName of texts of all kinds, as tokens of each kind.
func TestRight(t *testing.T) {
	for k, l := range rights() {
		for _, s := range l {
			for kind := 1; kind <= 7; kind++ {
				for _, at := range places() {
					if right := lex.Right(lex.Token{Kind: kind, Text: s, At: at}); right != (kind == k) {
						t.Errorf("that %q at %d is a token of kind %d is %t", s, at, kind, right)
					}
				}
			}
			if name := lex.IsName(s); name != (k == lex.Name) {
				t.Errorf("that %q is a name is %t", s, name)
			}
		}
	}
}

// P9.2: what is no token of its kind, nor of any, and what stands below 0.
func TestRightRefuses(t *testing.T) {
	for _, s := range wrongs() {
		for kind := 0; kind <= 8; kind++ {
			if lex.Right(lex.Token{Kind: kind, Text: s}) {
				t.Errorf("%q is a token of kind %d", s, kind)
			}
		}
		if lex.IsName(s) {
			t.Errorf("%q is a name", s)
		}
	}
	for k, l := range rights() {
		for _, s := range l {
			for _, kind := range otherKinds() {
				if lex.Right(lex.Token{Kind: kind, Text: s}) {
					t.Errorf("%q is a token of kind %d", s, kind)
				}
			}
			for _, at := range []int{-1, -2, -400, least} {
				if lex.Right(lex.Token{Kind: k, Text: s, At: at}) {
					t.Errorf("%q at %d is a token", s, at)
				}
			}
		}
	}
}

// P9.2: Right and IsName of all short texts, held against the model.
func TestRightAll(t *testing.T) {
	m := newModel()
	check := func(s string) {
		k := m.kindOf(s)
		if s == "" {
			k = lex.End
		}
		for kind := 0; kind <= 8; kind++ {
			if right := lex.Right(lex.Token{Kind: kind, Text: s, At: 3}); right != (kind == k && k != 0) {
				t.Fatalf("that %q is a token of kind %d is %t", s, kind, right)
			}
		}
		if lex.IsName(s) != (k == lex.Name) {
			t.Fatalf("that %q is a name is %t", s, lex.IsName(s))
		}
	}
	for c := range 256 {
		for d := range 256 {
			check(string([]byte{byte(c), byte(d)}))
		}
		check(string([]byte{byte(c)}))
	}
	each(4, strings.Split("a_A01$' \n<=>|!-", ""), check)
	each(7, strings.Split("'a", ""), check)
}

// mustValue holds Value of a token against a value, or an error.
func mustValue(t *testing.T, k lex.Token, want api.Value, wantErr api.Errno) {
	t.Helper()
	if v, err := lex.Value(k); v != want || err != wantErr {
		t.Errorf("Value(%v) is %v, %d; want %v, %d", k, v, err, want, wantErr)
	}
}

// P9.2: values by hand.
func TestValueByHand(t *testing.T) {
	a32, a33 := bytesOf("a", 32), bytesOf("a", 33)
	for _, x := range []struct {
		kind int
		s    string
		want api.Value
		err  api.Errno
	}{
		{lex.Number, "0", number(0), api.OK}, {lex.Number, "7", number(7), api.OK}, {lex.Number, "120", number(120), api.OK},
		{lex.Number, "9223372036854775807", number(most), api.OK}, {lex.Number, "1000000000000000000", number(1000000000000000000), api.OK},
		{lex.Number, "9223372036854775808", api.Value{}, api.ErrRange}, {lex.Number, bytesOf("9", 19), api.Value{}, api.ErrRange},
		{lex.Quoted, "''", text(""), api.OK}, {lex.Quoted, "'a'", text("a"), api.OK}, {lex.Quoted, "''''", text("'"), api.OK},
		{lex.Quoted, "'it''s'", text("it's"), api.OK}, {lex.Quoted, "'NULL'", text("NULL"), api.OK}, {lex.Quoted, "'12'", text("12"), api.OK},
		{lex.Quoted, "' ~ '", text(" ~ "), api.OK}, {lex.Quoted, "'" + a32 + "'", text(a32), api.OK},
		{lex.Quoted, "'" + bytesOf("''", 32) + "'", text(bytesOf("'", 32)), api.OK},
		{lex.Quoted, "'" + a33 + "'", api.Value{}, api.ErrLong}, {lex.Quoted, "'" + bytesOf("''", 33) + "'", api.Value{}, api.ErrLong},
		{lex.Quoted, "'" + a32 + "'''", api.Value{}, api.ErrLong}, {lex.Quoted, "'" + bytesOf("a", 5000) + "'", api.Value{}, api.ErrLong},
		{lex.Key, "TRUE", bit(1), api.OK}, {lex.Key, "FALSE", bit(0), api.OK}, {lex.Key, "NULL", api.Value{}, api.OK},
	} {
		for _, at := range places() {
			mustValue(t, lex.Token{Kind: x.kind, Text: x.s, At: at}, x.want, x.err)
		}
		// Of another kind, and below 0, it is not right.
		for kind := 0; kind <= 8; kind++ {
			if kind != x.kind {
				mustValue(t, lex.Token{Kind: kind, Text: x.s}, api.Value{}, api.ErrType)
			}
		}
		for _, at := range []int{-1, least} {
			mustValue(t, lex.Token{Kind: x.kind, Text: x.s, At: at}, api.Value{}, api.ErrType)
		}
	}
}

// P9.2: tokens without a value, and what is no token.
func TestValueRefuses(t *testing.T) {
	for k, l := range rights() {
		for _, s := range l {
			isValue := s == "TRUE" || s == "FALSE" || s == "NULL" || k == lex.Number || k == lex.Quoted
			for _, kind := range append(otherKinds(), 1, 2, 3, 4, 5, 6, 7) {
				if kind != k || !isValue {
					mustValue(t, lex.Token{Kind: kind, Text: s}, api.Value{}, api.ErrType)
				}
			}
		}
	}
	for _, s := range append(wrongs(), "true", "True", "TRUE_", "NULLS", "null", "-9223372036854775808") {
		for kind := 0; kind <= 8; kind++ {
			mustValue(t, lex.Token{Kind: kind, Text: s}, api.Value{}, api.ErrType)
		}
	}
}

// P9.2: a value that is shown, and is no number below 0, is one token, of which it is the value.
func TestValueOfShow(t *testing.T) {
	for _, v := range []api.Value{{}, bit(0), bit(1), number(0), number(1), number(most), text(""), text("'"), text("it's"), text("a b"), text(bytesOf("'", 32)), text(bytesOf("~", 32))} {
		l, at, err := lex.Tokens(value.Show(v))
		if len(l) != 2 || at != 0 || err != api.OK {
			t.Errorf("Tokens of %v as it is shown is %v, %d, %d", v, l, at, err)
			continue
		}
		mustValue(t, l[0], v, api.OK)
		mustValue(t, l[1], api.Value{}, api.ErrType)
	}
}
