package lex_test

import (
	"regexp"
	"slices"
	"strings"
	"testing"

	"registrar/api"
	"registrar/lex"
)

// kind is a kind of tokens, and which texts are one, by the chapter's words.
type kind struct {
	number int
	texts  *regexp.Regexp
}

// kinds are all but the end, which no text has.
func kinds() []kind {
	return []kind{
		{lex.Name, regexp.MustCompile(`^[a-z][a-z0-9_]{0,11}$`)},
		{lex.Key, regexp.MustCompile(`^[A-Z][A-Z_]{0,15}$`)},
		{lex.Number, regexp.MustCompile(`^(0|[1-9][0-9]{0,18})$`)},
		{lex.Quoted, regexp.MustCompile(`^'([ -&(-~]|'')*'$`)},
		{lex.Param, regexp.MustCompile(`^\$[1-6]$`)},
		{lex.Sign, regexp.MustCompile(`^([(),=<>+*/%-]|<>|<=|>=|\|\|)$`)},
	}
}

// model cuts texts by trying all that a token may be.
type model struct {
	kinds  []kind
	goesOn *regexp.Regexp
}

func newModel() *model {
	return &model{kinds(), regexp.MustCompile(`^[A-Za-z0-9_$]`)}
}

// kindOf is the kind of a whole text; 0, if it is no token.
func (m *model) kindOf(s string) int {
	for _, k := range m.kinds {
		if k.texts.MatchString(s) && !strings.HasSuffix(s, "\n") {
			return k.number
		}
	}
	return 0
}

// longest is the longest token with which a text begins; of kind 0, if there is none.
func (m *model) longest(s string) lex.Token {
	for n := len(s); n > 0; n-- {
		k := m.kindOf(s[:n])
		if k != 0 && (k != lex.Quoted || !strings.HasPrefix(s[n:], "'")) {
			return lex.Token{Kind: k, Text: s[:n]}
		}
	}
	return lex.Token{}
}

// tokens is what Tokens must answer.
func (m *model) tokens(s string) ([]lex.Token, int, api.Errno) {
	if len(s) > 400 {
		return nil, 0, api.ErrLong
	}
	var l []lex.Token
	at := 0
	for {
		at = len(s) - len(strings.TrimLeft(s[at:], " \n"))
		k := m.longest(s[at:])
		k.At = at
		isEnd := at == len(s)
		if !isEnd && (k.Kind == 0 || k.Kind <= 5 && k.Kind != lex.Quoted && m.goesOn.MatchString(s[at+len(k.Text):])) {
			return nil, at, api.ErrWord
		}
		if len(l) == 120 {
			return nil, at, api.ErrFull
		}
		if isEnd {
			return append(l, lex.Token{Kind: lex.End, At: at}), 0, api.OK
		}
		l = append(l, k)
		at += len(k.Text)
	}
}

// check holds Tokens of a text against the model's, and what follows of them.
func (m *model) check(t *testing.T, s string) {
	t.Helper()
	want, wantAt, wantErr := m.tokens(s)
	l, at, err := lex.Tokens(s)
	if !slices.Equal(l, want) || at != wantAt || err != wantErr {
		t.Fatalf("Tokens(%q) is %v, %d, %d; want %v, %d, %d", s, l, at, err, want, wantAt, wantErr)
	}
	for _, k := range l {
		if !lex.Right(k) {
			t.Fatalf("Tokens(%q) has %v, which is not right", s, k)
		}
	}
	checkAgain(t, l)
}

// checkAgain holds P9.3: the texts of tokens, with a blank between each two, are cut into these tokens again, where they are not too long for a text.
func checkAgain(t *testing.T, l []lex.Token) {
	t.Helper()
	s := texts(l)
	if len(l) == 0 || len(s) > 400 {
		return
	}
	again, at, err := lex.Tokens(s)
	if len(again) != len(l) || at != 0 || err != api.OK {
		t.Fatalf("Tokens(%q) is %v, %d, %d; want %v", s, again, at, err, l)
	}
	place := 0
	for i, k := range l {
		if want := (lex.Token{Kind: k.Kind, Text: k.Text, At: place}); again[i] != want {
			t.Fatalf("Tokens(%q) has %v, want %v", s, again[i], want)
		}
		place += len(k.Text) + 1
	}
}

// each calls visit with each text of at most n of the pieces.
func each(n int, of []string, visit func(s string)) {
	var grow func(s string, n int)
	grow = func(s string, n int) {
		visit(s)
		if n > 0 {
			for _, piece := range of {
				grow(s+piece, n-1)
			}
		}
	}
	grow("", n)
}

// P9.1, P9.3: all texts of at most two bytes.
func TestTokensOfTwoBytes(t *testing.T) {
	m := newModel()
	var all []string
	for c := range 256 {
		all = append(all, string([]byte{byte(c)}))
	}
	each(2, all, func(s string) { m.check(t, s) })
}

// P9.1, P9.3: all short texts of the bytes at which something turns.
func TestTokensOfFewBytes(t *testing.T) {
	m := newModel()
	for _, bytes := range []string{"a_A0 '", "<>=|$", "$16 a'", "'a\n \x1f", "azAZ_01"} {
		each(6, strings.Split(bytes, ""), func(s string) { m.check(t, s) })
	}
	each(4, strings.Split("a_A01$' \n<=>|!-", ""), func(s string) { m.check(t, s) })
}

// P9.1, P9.3: all ways to lay a few pieces one behind the other, which are as long as they may be, and longer.
func TestTokensOfPieces(t *testing.T) {
	m := newModel()
	pieces := []string{
		" ", "\n", "a", bytesOf("b", 11), bytesOf("c", 12), "A", bytesOf("B", 15), bytesOf("_", 16), "0", bytesOf("1", 18), bytesOf("9", 19),
		"'", "''", "'x'", bytesOf("'", 7), bytesOf("'", 8), "$", "$6", "$7", "<", "<>", ">=", "|", "||", "\xc3\xa9", bytesOf("(", 60),
	}
	each(3, pieces, func(s string) { m.check(t, s) })
}

// dice are numbers that are always the same ones.
type dice struct{ seed uint32 }

// below is the next number, from 0 to n - 1.
func (d *dice) below(n int) int {
	d.seed = d.seed*1664525 + 1013904223
	return int(d.seed>>8) % n
}

// P9.1, P9.3: long texts, most of which are cut, and some of which are too long or have too many tokens, or a word that is none.
func TestTokensOfLongTexts(t *testing.T) {
	m := newModel()
	d := &dice{seed: 9}
	pieces := []string{
		"a ", "tab_1 ", "SELECT ", "NULL\n", "0 ", "17 ", "9999999999999999999 ", "'it''s'", "'' ", "$1 ", "$6\n",
		"(", ")", ",", "=", "<>", "<", "<=", ">", ">=", "+", "-", "*", "/", "%", "||", " ", "\n",
	}
	wrong := []string{"!", "|", "$7", "'", "01", "aB", "A1", "\t", "\xff", "a$"}
	ends := map[api.Errno]int{}
	for k := range 1500 {
		var b strings.Builder
		for n := d.below(180); n > 0; n-- {
			piece := pieces[d.below(len(pieces))]
			if k%3 == 0 {
				piece = pieces[11+d.below(15)]
			}
			if d.below(300) == 0 {
				piece = wrong[d.below(len(wrong))]
			}
			b.WriteString(piece)
		}
		s := b.String()
		m.check(t, s)
		_, _, err := lex.Tokens(s)
		ends[err]++
	}
	for _, err := range []api.Errno{api.OK, api.ErrWord, api.ErrFull, api.ErrLong} {
		if ends[err] < 25 {
			t.Errorf("only %d of the texts ended with %d", ends[err], err)
		}
	}
}
