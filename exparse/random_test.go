package exparse_test

import (
	"slices"
	"strings"
	"testing"

	"registrar/api"
	"registrar/exparse"
	"registrar/expr"
	"registrar/lex"
)

// dice are numbers that are always the same ones.
type dice struct{ seed uint32 }

// below is the next number, from 0 to n - 1.
func (d *dice) below(n int) int {
	d.seed = d.seed*1664525 + 1013904223
	return int(d.seed>>8) % n
}

// kinds are texts of tokens at which the grammar turns.
func kinds() []string {
	return append(strings.Fields("a 1 'x' NULL TRUE $2 ( ) , = < + - || * OR AND NOT IS IN COALESCE ABS DESC 9999999999999999999"), "'"+many("y", "", 33)+"'")
}

// mustTake holds Take, and Parse of the tokens' texts with a blank between each two, against the model.
func mustTake(t *testing.T, texts []string) {
	t.Helper()
	s := strings.Join(texts, " ")
	var l []lex.Token
	at := 0
	for _, text := range texts {
		l = append(l, tokensOf(t, text)[0])
		l[len(l)-1].At = at
		at += len(text) + 1
	}
	l = append(l, lex.Token{Kind: lex.End, At: max(at-1, 0)})
	want, wantN, wantErr := modelTake(l)
	e, n, err := exparse.Take(l)
	if err != wantErr || n != wantN || !expr.Same(e, want) {
		t.Fatalf("Take of %q is %s, %d, %v, want %s, %d, %v", s, shape(e), n, err, shape(want), wantN, wantErr)
	}
	if len(s) > api.MaxSql || len(l) > api.MaxTokens {
		return
	}
	wantAt := l[wantN].At
	if wantErr == api.OK && wantN < len(l)-1 {
		want, wantErr = api.Expr{}, api.ErrSay
	} else if wantErr == api.OK {
		wantAt = 0
	}
	e, at, err = exparse.Parse(s)
	if err != wantErr || at != wantAt || !expr.Same(e, want) {
		t.Fatalf("Parse of %q is %s, %d, %v, want %s, %d, %v", s, shape(e), at, err, shape(want), wantAt, wantErr)
	}
}

// P11.1, P11.2: all short lists of tokens, against the model.
func TestAllShort(t *testing.T) {
	few := strings.Fields("a ( ) , = - OR NOT IS NULL IN ABS")
	var all func(l, texts []string, more int)
	all = func(l, texts []string, more int) {
		mustTake(t, l)
		for _, text := range texts {
			if more > 0 {
				all(append(slices.Clip(l), text), texts, more-1)
			}
		}
	}
	all(nil, kinds(), 2)
	all(nil, few, 3)
	all([]string{"a"}, kinds(), 2)
	all([]string{"a", "IN", "(", "1"}, few, 3)
	all([]string{"NOT", "a", "=", "-"}, few, 3)
	all([]string{"COALESCE", "("}, few, 3)
}

// grow is a list of tokens' texts of which nearly each one can stand there.
func grow(t *testing.T, d *dice, size int) []string {
	var l []string
	c := newChart()
	texts := kinds()
	for len(l) < size {
		text := texts[d.below(len(texts))]
		stands := len(text) < 10 && c.read(tokensOf(t, text)[0])
		if stands || d.below(400) == 0 {
			l = append(l, text)
		}
		if !stands && len(l) > 0 && l[len(l)-1] == text {
			break
		}
	}
	for c.read(tokensOf(t, ")")[0]) && d.below(8) > 0 {
		l = append(l, ")")
	}
	return l
}

// P11.1, P11.2: lists that grow by what can stand there, against the model.
func TestGrown(t *testing.T) {
	d := &dice{seed: 11}
	for range 1500 {
		mustTake(t, grow(t, d, 1+d.below(25)))
	}
}

// leaf is what has no kids, and is right.
func (d *dice) leaf() api.Expr {
	texts := []string{"", "a", "it's", "$1", "b, c", "''", "#2 OR a", many("z", "", 32)}
	switch d.below(5) {
	case 0:
		return api.Expr{Kind: api.Lit, V: api.Value{Kind: api.Int, N: []int{0, 1, 10, 999, 1<<63 - 1}[d.below(5)]}}
	case 1:
		return api.Expr{Kind: api.Lit, V: api.Value{Kind: api.Text, S: texts[d.below(len(texts))]}}
	case 2:
		return api.Expr{Kind: api.Lit, V: []api.Value{{}, {Kind: api.Bool}, {Kind: api.Bool, N: 1}}[d.below(3)]}
	case 3:
		return api.Expr{Kind: api.Par, Op: 1 + d.below(6)}
	}
	return api.Expr{Kind: api.Col, Name: []string{"a", "b", "or", "a_1", "abcdefghijkl", "null"}[d.below(6)]}
}

// tree is a right tree without slots, as high as asked at most.
func (d *dice) tree(height int) api.Expr {
	if height == 1 || d.below(9) == 0 {
		return d.leaf()
	}
	e := api.Expr{Kind: api.Bin, Op: 1 + d.below(14)}
	n := 2
	switch d.below(9) {
	case 0:
		e, n = api.Expr{Kind: api.In}, 2+d.below(3)
	case 1:
		e, n = api.Expr{Kind: api.Call, Name: "coalesce"}, 1+d.below(4)
	case 2:
		e, n = api.Expr{Kind: api.Call, Name: []string{"abs", "length"}[d.below(2)]}, 1
	case 3, 4, 5:
		e, n = api.Expr{Kind: api.Un, Op: 1 + d.below(4)}, 1
	}
	for range n {
		e.Kids = append(e.Kids, d.tree(height-1))
	}
	return e
}

// P11.3: what is printed is read as it was, where it has not too many tokens.
func TestRoundTrip(t *testing.T) {
	d := &dice{seed: 7}
	read := 0
	for range 60000 {
		e := d.tree(1 + d.below(api.MaxDepth))
		s, err := expr.Print(e)
		if err != api.OK {
			continue
		}
		_, wantAt, want := lex.Tokens(s)
		back, at, err := exparse.Parse(s)
		if want == api.OK {
			read++
		} else {
			e = api.Expr{}
		}
		if err != want || at != wantAt || !expr.Same(back, e) {
			t.Fatalf("Parse of %q is %s, %d, %v, want %s, %d, %v", s, shape(back), at, err, shape(e), wantAt, want)
		}
	}
	if read < 40000 {
		t.Errorf("only %d were read", read)
	}
}

// P11.3: all pairs and threes of parts one over the other, each at each place.
func TestRoundTripNested(t *testing.T) {
	a := api.Expr{Kind: api.Col, Name: "a"}
	var holders []func(kid api.Expr) api.Expr
	hold := func(e api.Expr, kids int) {
		for place := range kids {
			holders = append(holders, func(kid api.Expr) api.Expr {
				x := e
				x.Kids = slices.Repeat([]api.Expr{a}, kids)
				x.Kids[place] = kid
				return x
			})
		}
	}
	for op := api.Or; op <= api.Cat; op++ {
		hold(api.Expr{Kind: api.Bin, Op: op}, 2)
	}
	for op := api.Neg; op <= api.NotNull; op++ {
		hold(api.Expr{Kind: api.Un, Op: op}, 1)
	}
	hold(api.Expr{Kind: api.In}, api.MaxList+1)
	hold(api.Expr{Kind: api.Call, Name: "coalesce"}, 4)
	hold(api.Expr{Kind: api.Call, Name: "length"}, 1)
	hold(api.Expr{Kind: api.Call, Name: "abs"}, 1)
	for _, first := range holders {
		for _, second := range holders {
			for _, third := range holders {
				e := first(second(third(a)))
				s, _ := expr.Print(e)
				back, at, err := exparse.Parse(s)
				if err != api.OK || at != 0 || !expr.Same(back, e) {
					t.Fatalf("Parse of %q is %s, %d, %v, want %s", s, shape(back), at, err, shape(e))
				}
			}
		}
	}
}

// P11.1, P11.2: printed trees with brackets laid around parts, and spoilt at one or two places, against the model.
func TestSpoilt(t *testing.T) {
	d := &dice{seed: 5}
	texts := kinds()
	for range 1500 {
		s, err := expr.Print(d.tree(1 + d.below(5)))
		l, _, lexErr := lex.Tokens(s)
		if err != api.OK || lexErr != api.OK || len(l) > 60 {
			continue
		}
		var words []string
		for _, token := range l[:len(l)-1] {
			if d.below(12) == 0 && operand(token) && token.Text != ")" {
				words = append(words, "(", token.Text, ")")
			} else {
				words = append(words, token.Text)
			}
		}
		for range d.below(3) {
			i := d.below(len(words))
			words = slices.Replace(words, i, min(i+d.below(2), len(words)), slices.Repeat([]string{texts[d.below(len(texts))]}, d.below(2))...)
			if len(words) == 0 {
				words = []string{"a"}
			}
		}
		mustTake(t, words)
	}
}
