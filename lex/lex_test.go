package lex_test

import (
	"slices"
	"strings"
	"testing"

	"registrar/api"
	"registrar/lex"
)

const (
	most  = 1<<63 - 1
	least = -1 << 63
)

// Bytes of words.
const (
	small   = "abcdefghijklmnopqrstuvwxyz"
	capital = "ABCDEFGHIJKLMNOPQRSTUVWXYZ"
	digits  = "0123456789"
)

func number(n int) api.Value { return api.Value{Kind: api.Int, N: n} }

func bit(n int) api.Value { return api.Value{Kind: api.Bool, N: n} }

func text(s string) api.Value { return api.Value{Kind: api.Text, S: s} }

// bytesOf are so many bytes of one kind.
func bytesOf(s string, n int) string { return strings.Repeat(s, n) }

// The kinds' numbers are as they are given.
func TestKinds(t *testing.T) {
	kinds := []int{lex.Name, lex.Key, lex.Number, lex.Quoted, lex.Param, lex.Sign, lex.End}
	if !slices.Equal(kinds, []int{1, 2, 3, 4, 5, 6, 7}) {
		t.Errorf("kinds are %v", kinds)
	}
}

// mustCut holds Tokens of a text that has tokens against them.
func mustCut(t *testing.T, s string, want ...lex.Token) {
	t.Helper()
	if l, at, err := lex.Tokens(s); !slices.Equal(l, want) || at != 0 || err != api.OK {
		t.Errorf("Tokens(%q) is %v, %d, %d; want %v", s, l, at, err, want)
	}
}

// mustRefuse holds Tokens of a text that has an error against it and its place.
func mustRefuse(t *testing.T, s string, wantAt int, want api.Errno) {
	t.Helper()
	if l, at, err := lex.Tokens(s); len(l) != 0 || at != wantAt || err != want {
		t.Errorf("Tokens(%q) is %v, %d, %d; want none, %d, %d", s, l, at, err, wantAt, want)
	}
}

// P9.1: tokens by hand.
func TestTokensByHand(t *testing.T) {
	mustCut(t, "", lex.Token{Kind: 7, At: 0})
	mustCut(t, " ", lex.Token{Kind: 7, At: 1})
	mustCut(t, " \n\n ", lex.Token{Kind: 7, At: 4})
	mustCut(t, "a<=-1",
		lex.Token{Kind: 1, Text: "a", At: 0}, lex.Token{Kind: 6, Text: "<=", At: 1},
		lex.Token{Kind: 6, Text: "-", At: 3}, lex.Token{Kind: 3, Text: "1", At: 4}, lex.Token{Kind: 7, At: 5})
	mustCut(t, "SELECT a_1, b\nFROM t WHERE a <> 'it''s' AND $2>=10 ",
		lex.Token{Kind: 2, Text: "SELECT", At: 0}, lex.Token{Kind: 1, Text: "a_1", At: 7}, lex.Token{Kind: 6, Text: ",", At: 10},
		lex.Token{Kind: 1, Text: "b", At: 12}, lex.Token{Kind: 2, Text: "FROM", At: 14}, lex.Token{Kind: 1, Text: "t", At: 19},
		lex.Token{Kind: 2, Text: "WHERE", At: 21}, lex.Token{Kind: 1, Text: "a", At: 27}, lex.Token{Kind: 6, Text: "<>", At: 29},
		lex.Token{Kind: 4, Text: "'it''s'", At: 32}, lex.Token{Kind: 2, Text: "AND", At: 40}, lex.Token{Kind: 5, Text: "$2", At: 44},
		lex.Token{Kind: 6, Text: ">=", At: 46}, lex.Token{Kind: 3, Text: "10", At: 48}, lex.Token{Kind: 7, At: 51})
	mustCut(t, "'''''' 'a'b'c'1",
		lex.Token{Kind: 4, Text: "''''''", At: 0}, lex.Token{Kind: 4, Text: "'a'", At: 7}, lex.Token{Kind: 1, Text: "b", At: 10},
		lex.Token{Kind: 4, Text: "'c'", At: 11}, lex.Token{Kind: 3, Text: "1", At: 14}, lex.Token{Kind: 7, At: 15})
	mustCut(t, "''\n'' ''' '",
		lex.Token{Kind: 4, Text: "''", At: 0}, lex.Token{Kind: 4, Text: "''", At: 3}, lex.Token{Kind: 4, Text: "''' '", At: 6},
		lex.Token{Kind: 7, At: 11})
}

// P9.1: signs of two bytes are taken ahead of those of one, and of one byte more nothing is taken.
func TestSignsByHand(t *testing.T) {
	for _, x := range []struct{ s, want string }{
		{"()", "( )"}, {"<>", "<>"}, {"<=", "<="}, {">=", ">="}, {"||", "||"}, {"<", "<"}, {">", ">"}, {"=", "="},
		{"<<", "< <"}, {">>", "> >"}, {"==", "= ="}, {"><", "> <"}, {"=<", "= <"}, {"=>", "= >"}, {"<=>", "<= >"}, {"<>=", "<> ="},
		{"<<=", "< <="}, {"<><=", "<> <="}, {">==", ">= ="}, {">=>=", ">= >="}, {"||||", "|| ||"}, {"--", "- -"}, {"+-*/%", "+ - * / %"},
		{"< >", "< >"}, {"< =", "< ="}, {"> =", "> ="}, {"(,)", "( , )"}, {"**", "* *"}, {"//", "/ /"}, {"%%", "% %"},
	} {
		l, at, err := lex.Tokens(x.s)
		if at != 0 || err != api.OK || strings.TrimSpace(texts(l)) != x.want {
			t.Errorf("Tokens(%q) is %v, %d, %d; want %q", x.s, l, at, err, x.want)
		}
	}
}

// texts are the texts of tokens, with a blank between each two.
func texts(l []lex.Token) string {
	var s []string
	for _, k := range l {
		s = append(s, k.Text)
	}
	return strings.Join(s, " ")
}

// P9.1: where no token begins, that place is told.
func TestWordsThatAreNone(t *testing.T) {
	for c := range 256 {
		s := string([]byte{byte(c)})
		begins := strings.IndexByte(" \n(),=<>+-*/%"+small+capital+digits, byte(c)) >= 0
		_, at, err := lex.Tokens("- " + s)
		switch {
		case begins && err != api.OK:
			t.Errorf("Tokens of %q has error %d at %d", "- "+s, err, at)
		case !begins:
			mustRefuse(t, "- "+s, 2, api.ErrWord)
			mustRefuse(t, "-"+s+"a", 1, api.ErrWord)
		}
	}
	for _, x := range []struct {
		s  string
		at int
	}{
		{"|", 0}, {"| |", 0}, {"|||", 2}, {"a|b", 1}, {"_", 0}, {"_a", 0}, {"a _", 2}, {"!", 0}, {"a != b", 2}, {"\t", 0}, {"a\tb", 1},
		{"a\r\n", 1}, {"a;", 1}, {"a.b", 1}, {"1.5", 1}, {"\"a\"", 0}, {"#1", 0}, {"a\x00", 1}, {"\x00", 0}, {"é", 0}, {"aé", 1}, {"1\xff", 1},
		{"$", 0}, {"$ 1", 0}, {"$0", 0}, {"$7", 0}, {"$9", 0}, {"$a", 0}, {"$$1", 0}, {"a $A", 2}, {"$-1", 0},
		{"'", 0}, {"'''", 0}, {"'''''", 0}, {"'a", 0}, {"a 'a", 2}, {"'a''", 0}, {"'a'''b'", 6}, {"'a' 'b", 4}, {"'a\n'", 0}, {"'a\x1f'", 0},
		{"'\x7f'", 0}, {"'\x80'", 0}, {"'a' '\xff'", 4}, {"'é'", 0}, {"'\x00'", 0}, {"'''a' '", 6},
	} {
		mustRefuse(t, x.s, x.at, api.ErrWord)
	}
}

// P9.1: a word, a number and a parameter that go on are refused where they begin, but where what goes on is a part of them.
func TestWordsThatGoOn(t *testing.T) {
	for _, x := range []struct{ word, parts string }{
		{"a", small + digits + "_"}, {"a_1", small + digits + "_"}, {bytesOf("n", 11), small + digits + "_"}, {bytesOf("n", 12), ""},
		{"A", capital + "_"}, {"A_B", capital + "_"}, {bytesOf("K", 15), capital + "_"}, {bytesOf("K", 16), ""},
		{"0", ""}, {"7", digits}, {"10", digits}, {bytesOf("9", 18), digits}, {bytesOf("9", 19), ""}, {"$1", ""}, {"$6", ""},
	} {
		for c := range 256 {
			s := x.word + string([]byte{byte(c)})
			isPart := strings.IndexByte(x.parts, byte(c)) >= 0
			if goesOn := strings.IndexByte(small+capital+digits+"_$", byte(c)) >= 0; goesOn && !isPart {
				mustRefuse(t, " "+s, 1, api.ErrWord)
				mustRefuse(t, "('a'"+s+" !", 4, api.ErrWord)
				continue
			}
			if l, at, err := lex.Tokens(" " + s); err != api.OK && at != len(s) || isPart && (len(l) != 2 || l[0].Text != s) {
				t.Errorf("Tokens(%q) is %v, %d, %d", " "+s, l, at, err)
			}
		}
	}
	for _, x := range []struct {
		s  string
		at int
	}{
		{"aB", 0}, {"a$1", 0}, {"a$", 0}, {"Ab", 0}, {"A1", 0}, {"A_1", 0}, {"A$1", 0}, {"1a", 0}, {"1A", 0}, {"1_", 0}, {"1$1", 0}, {"01", 0}, {"00", 0},
		{"0a", 0}, {"$1a", 0}, {"$11", 0}, {"$1$2", 0}, {"$1_", 0}, {"$6A", 0}, {"a 01", 2}, {"a + bC", 4}, {"'a'aB", 3}, {"(1a)", 1},
		{bytesOf("a", 13), 0}, {bytesOf("A", 17), 0}, {bytesOf("1", 20), 0}, {"-" + bytesOf("9", 20), 1}, {bytesOf("a", 12) + "$", 0},
		{bytesOf("a", 12) + "_", 0}, {bytesOf("A", 16) + "_", 0}, {bytesOf("a", 12) + " " + bytesOf("a", 13), 13}, {bytesOf("a", 400), 0},
	} {
		mustRefuse(t, x.s, x.at, api.ErrWord)
	}
}

// P9.1: the longest of each kind, and what may stand behind it at once.
func TestLongest(t *testing.T) {
	for _, x := range []struct {
		s    string
		kind int
	}{
		{bytesOf("a", 12), lex.Name}, {"z23456789__9", lex.Name}, {bytesOf("A", 16), lex.Key}, {"Z" + bytesOf("_", 15), lex.Key},
		{bytesOf("9", 19), lex.Number}, {"1" + bytesOf("0", 18), lex.Number}, {"'" + bytesOf("a", 396) + "'", lex.Quoted},
		{"'" + bytesOf("'", 396) + "'", lex.Quoted}, {"' ~'", lex.Quoted}, {"$6", lex.Param}, {"<>", lex.Sign},
	} {
		mustCut(t, x.s, lex.Token{Kind: x.kind, Text: x.s}, lex.Token{Kind: lex.End, At: len(x.s)})
		mustCut(t, "\n"+x.s+")", lex.Token{Kind: x.kind, Text: x.s, At: 1}, lex.Token{Kind: lex.Sign, Text: ")", At: len(x.s) + 1}, lex.Token{Kind: lex.End, At: len(x.s) + 2})
	}
}

// P9.1: a text may have MaxSql bytes, blanks too; one more is refused ahead of all else.
func TestTooLong(t *testing.T) {
	mustCut(t, bytesOf(" ", 400), lex.Token{Kind: lex.End, At: 400})
	mustCut(t, bytesOf("\n", 399)+"a", lex.Token{Kind: lex.Name, Text: "a", At: 399}, lex.Token{Kind: lex.End, At: 400})
	mustCut(t, "a"+bytesOf(" ", 399), lex.Token{Kind: lex.Name, Text: "a"}, lex.Token{Kind: lex.End, At: 400})
	mustRefuse(t, bytesOf(" ", 399)+"!", 399, api.ErrWord)
	for _, piece := range []string{" ", "\n", "a", "A ", "(", "!", "1", "'", "$", "\xff", "a "} {
		for _, n := range []int{401, 402, 403, 800, 5000} {
			mustRefuse(t, bytesOf(piece, n)[:n], 0, api.ErrLong)
		}
	}
}

// P9.1: there may be MaxTokens tokens, with the end among them; one more is refused at its place, be it the end or another one.
func TestTooMany(t *testing.T) {
	for n := range 125 {
		for _, behind := range []string{"", " ", "\n  "} {
			s := bytesOf("( ", n) + behind
			l, at, err := lex.Tokens(s)
			switch {
			case n < 120 && (len(l) != n+1 || at != 0 || err != api.OK || l[n] != lex.Token{Kind: lex.End, At: len(s)}):
				t.Errorf("Tokens of %d signs is %v, %d, %d", n, l, at, err)
			case n == 120:
				mustRefuse(t, s, len(s), api.ErrFull)
			case n > 120:
				mustRefuse(t, s, 240, api.ErrFull)
			}
		}
	}
	full := bytesOf("-", 120)
	for _, behind := range []string{"a", "A", "1", "''", "$1", "<=", "-", "a b", "a bC", "- !", "''''' '"} {
		mustRefuse(t, full+behind, 120, api.ErrFull)
		mustRefuse(t, full+" \n"+behind, 122, api.ErrFull)
	}
}

// P9.1: a word that is none is told ahead of a token too many at the same place, and so is one that goes on; where it stands behind that place, it is not come to.
func TestTooManyAndWords(t *testing.T) {
	full := bytesOf("(", 120)
	for _, behind := range []string{"!", "|", "$7", "'", "aB", "01", "$11", bytesOf("a", 13), "_"} {
		mustRefuse(t, full+behind, 120, api.ErrWord)
		mustRefuse(t, full+"\n"+behind, 121, api.ErrWord)
		mustRefuse(t, full[:119]+behind, 119, api.ErrWord)
		mustRefuse(t, full+"("+behind, 120, api.ErrFull)
		mustRefuse(t, full+"  "+bytesOf(")", 90)+behind, 122, api.ErrFull)
	}
}

// P9.1: what is answered is nobody else's.
func TestTokensAreNew(t *testing.T) {
	s := "SELECT a FROM t WHERE a = 'x'"
	one, _, _ := lex.Tokens(s)
	kept := slices.Clone(one)
	other, _, _ := lex.Tokens(s)
	clear(one[:cap(one)])
	if !slices.Equal(other, kept) {
		t.Errorf("Tokens are shared: %v", other)
	}
	if again, _, _ := lex.Tokens(s); !slices.Equal(again, kept) {
		t.Errorf("Tokens are other ones the next time: %v", again)
	}
}
