package exparse_test

import (
	"slices"
	"strings"

	"registrar/api"
	"registrar/expr"
	"registrar/lex"
)

// grammarText is the chapter's grammar, a line a rule; what stands on no line's left is a token.
const grammarText = `any: and | any OR and
and: not | and AND not
not: NOT not | is
is: sum | sum = sum | sum <> sum | sum < sum | sum <= sum | sum > sum | sum >= sum | sum IS NULL | sum IS NOT NULL | sum IN ( upto8 )
sum: part | sum + part | sum - part | sum or-sign part
part: neg | part * neg | part / neg | part % neg
neg: - neg | one
one: number | quoted | TRUE | FALSE | NULL | name | param | ( any ) | COALESCE ( upto4 ) | LENGTH ( any ) | ABS ( any )
upto8: any | any , upto7
upto7: any | any , upto6
upto6: any | any , upto5
upto5: any | any , upto4
upto4: any | any , upto3
upto3: any | any , upto2
upto2: any | any , upto1
upto1: any`

// rule is one way in which a part may be written.
type rule struct {
	left  string
	right []string
}

// rules are those of the grammar.
func rules() []rule {
	var l []rule
	for _, line := range strings.Split(grammarText, "\n") {
		left, ways, _ := strings.Cut(line, ":")
		for _, way := range strings.Split(ways, " | ") {
			right := strings.Fields(way)
			for i := range right {
				right[i] = strings.Replace(right[i], "or-sign", "||", 1)
			}
			l = append(l, rule{left, right})
		}
	}
	return l
}

// item is a rule of which some has been read, from a place on.
type item struct{ rule, done, from int }

// chart tells by Earley's way which tokens may stand where: its state k has all rules that are under way behind k tokens.
type chart struct {
	rules  []rule
	states [][]item
}

// newChart is one behind no token.
func newChart() *chart {
	c := &chart{rules: rules()}
	var first []item
	for i, r := range c.rules {
		if r.left == "any" {
			first = append(first, item{rule: i})
		}
	}
	c.close(first)
	return c
}

// wants is what an item waits for; an empty text, if it has all.
func (c *chart) wants(it item) string {
	if right := c.rules[it.rule].right; it.done < len(right) {
		return right[it.done]
	}
	return ""
}

// close adds a state of items, and of all that follows from them.
func (c *chart) close(state []item) {
	seen := map[item]bool{}
	here := len(c.states)
	c.states = append(c.states, nil)
	add := func(it item) {
		if !seen[it] {
			seen[it] = true
			c.states[here] = append(c.states[here], it)
		}
	}
	for _, it := range state {
		add(it)
	}
	for i := 0; i < len(c.states[here]); i++ {
		it := c.states[here][i]
		wanted := c.wants(it)
		if wanted == "" {
			for _, up := range c.states[it.from] {
				if c.wants(up) == c.rules[it.rule].left {
					add(item{up.rule, up.done + 1, up.from})
				}
			}
			continue
		}
		for n, r := range c.rules {
			if r.left == wanted {
				add(item{rule: n, from: here})
			}
		}
	}
}

// read goes on by a token, if it can stand there.
func (c *chart) read(t lex.Token) bool {
	word := wordOf(t)
	var next []item
	for _, it := range c.states[len(c.states)-1] {
		if word != "" && c.wants(it) == word {
			next = append(next, item{it.rule, it.done + 1, it.from})
		}
	}
	if len(next) > 0 {
		c.close(next)
	}
	return len(next) > 0
}

// whole tells whether what was read is an expression.
func (c *chart) whole() bool {
	return slices.ContainsFunc(c.states[len(c.states)-1], func(it item) bool {
		return it.from == 0 && c.rules[it.rule].left == "any" && c.wants(it) == ""
	})
}

// wordOf is how the grammar names a token.
func wordOf(t lex.Token) string {
	switch t.Kind {
	case lex.Name:
		return "name"
	case lex.Number:
		return "number"
	case lex.Quoted:
		return "quoted"
	case lex.Param:
		return "param"
	}
	return t.Text
}

// modelTake is what the chapter's words say of right tokens, by the chart, and by splitting what it has read.
func modelTake(l []lex.Token) (api.Expr, int, api.Errno) {
	c := newChart()
	for i, t := range l {
		if !c.read(t) {
			if !c.whole() {
				return api.Expr{}, i, api.ErrSay
			}
			e := split(l[:i])
			if expr.Height(e) > api.MaxDepth {
				return api.Expr{}, 0, api.ErrDeep
			}
			return e, i, api.OK
		}
		if t.Kind == lex.Number || t.Kind == lex.Quoted {
			if _, err := lex.Value(t); err != api.OK {
				return api.Expr{}, i, err
			}
		}
	}
	panic("the end was passed by")
}

// operand tells whether a part may end with a token, so that a - behind it stands between two.
func operand(t lex.Token) bool {
	return slices.Contains([]string{"name", "number", "quoted", "param", "TRUE", "FALSE", "NULL", ")"}, wordOf(t))
}

// last is where the last of some signs stands that is in no brackets, and between two; -1, if none is.
func last(l []lex.Token, texts ...string) int {
	at, deep := -1, 0
	for i, t := range l {
		switch {
		case t.Text == "(":
			deep++
		case t.Text == ")":
			deep--
		case deep == 0 && slices.Contains(texts, t.Text) && i > 0 && operand(l[i-1]):
			at = i
		}
	}
	return at
}

// split is the tree of tokens that are an expression: what binds least is looked for first.
func split(l []lex.Token) api.Expr {
	at := func(texts ...string) (int, bool) {
		i := last(l, texts...)
		return i, i >= 0
	}
	two := func(i int) api.Expr {
		op := 1 + slices.Index(strings.Fields("OR AND = <> < <= > >= + - * / % ||"), l[i].Text)
		return api.Expr{Kind: api.Bin, Op: op, Kids: []api.Expr{split(l[:i]), split(l[i+1:])}}
	}
	if i, found := at("OR"); found {
		return two(i)
	}
	if i, found := at("AND"); found {
		return two(i)
	}
	if l[0].Text == "NOT" {
		return api.Expr{Kind: api.Un, Op: api.Not, Kids: []api.Expr{split(l[1:])}}
	}
	if i, found := at("=", "<>", "<", "<=", ">", ">="); found {
		return two(i)
	}
	if i, found := at("IS"); found {
		return api.Expr{Kind: api.Un, Op: api.IsNull + len(l) - i - 2, Kids: []api.Expr{split(l[:i])}}
	}
	if i, found := at("IN"); found {
		return api.Expr{Kind: api.In, Kids: append([]api.Expr{split(l[:i])}, splitList(l[i+1:])...)}
	}
	if i, found := at("+", "-", "||"); found {
		return two(i)
	}
	if i, found := at("*", "/", "%"); found {
		return two(i)
	}
	if l[0].Text == "-" {
		return api.Expr{Kind: api.Un, Op: api.Neg, Kids: []api.Expr{split(l[1:])}}
	}
	return splitOne(l)
}

// splitList are the trees of a list in brackets.
func splitList(l []lex.Token) []api.Expr {
	l = l[1 : len(l)-1]
	var kids []api.Expr
	for i := last(l, ","); i >= 0; i = last(l, ",") {
		kids = append(kids, split(l[i+1:]))
		l = l[:i]
	}
	kids = append(kids, split(l))
	slices.Reverse(kids)
	return kids
}

// splitOne is the tree of tokens that are one.
func splitOne(l []lex.Token) api.Expr {
	switch wordOf(l[0]) {
	case "name":
		return api.Expr{Kind: api.Col, Name: l[0].Text}
	case "param":
		return api.Expr{Kind: api.Par, Op: strings.Index("$123456", l[0].Text[1:])}
	case "(":
		return splitList(l)[0]
	case "COALESCE", "LENGTH", "ABS":
		return api.Expr{Kind: api.Call, Name: strings.ToLower(l[0].Text), Kids: splitList(l[1:])}
	}
	v, _ := lex.Value(l[0])
	return api.Expr{Kind: api.Lit, V: v}
}
