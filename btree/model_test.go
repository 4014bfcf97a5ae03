package btree_test

import (
	"math"
	"slices"
	"strings"
	"testing"

	"registrar/btree"
)

const (
	most  = math.MaxInt
	least = math.MinInt
)

// pair is a pair that can be held against another one.
type pair struct {
	key string
	num int
}

// model is what a tree is by the chapter's words: its pairs in order. It is never written to.
type model []pair

// inOrder asks whether a stands ahead of b.
func inOrder(a, b pair) bool {
	if a.key != b.key {
		return a.key < b.key
	}
	return a.num < b.num
}

// place is where a pair is or would be: it asks one by one.
func (m model) place(p pair) int {
	at := 0
	for at < len(m) && inOrder(m[at], p) {
		at++
	}
	return at
}

// has asks whether a pair is there.
func (m model) has(p pair) bool {
	return slices.Contains(m, p)
}

// put is the model behind a Put.
func (m model) put(p pair) model {
	if m.has(p) {
		return m
	}
	return slices.Insert(slices.Clone(m), m.place(p), p)
}

// drop is the model behind a Drop.
func (m model) drop(p pair) model {
	return slices.DeleteFunc(slices.Clone(m), func(q pair) bool { return q == p })
}

// between are the pairs of a Range.
func (m model) between(from, to string, all bool) []pair {
	var l []pair
	for _, p := range m {
		if p.key >= from && (all || p.key < to) {
			l = append(l, p)
		}
	}
	return l
}

// maxDepth is the greatest depth that a tree of n pairs may have.
func maxDepth(n int) int {
	if n == 0 {
		return 0
	}
	d := 1
	for nodes := 2 * 4; nodes <= n; nodes *= 4 {
		d++
	}
	return d
}

// minDepth is the least depth that a tree of n pairs can have, with at most eight in each node.
func minDepth(n int) int {
	d := 0
	for room := 1; n > 0 && room < n || n > 0 && d == 0; room *= 8 {
		d++
	}
	return d
}

// plain are pairs that can be held against others.
func plain(l []btree.Pair) []pair {
	var m []pair
	for _, p := range l {
		m = append(m, pair{string(p.Key), p.Num})
	}
	return m
}

// checkSize holds Len, Depth and Check against a model.
func checkSize(t *testing.T, tree *btree.Tree, m model) {
	t.Helper()
	if n := tree.Len(); n != len(m) {
		t.Fatalf("Len is %d, want %d", n, len(m))
	}
	if d := tree.Depth(); d < minDepth(len(m)) || d > maxDepth(len(m)) {
		t.Fatalf("Depth of %d pairs is %d", len(m), d)
	}
	if !tree.Check() {
		t.Fatalf("Check of %d pairs is false", len(m))
	}
}

// checkRange holds Range against a model.
func checkRange(t *testing.T, tree *btree.Tree, m model, from, to string, all bool) {
	t.Helper()
	want := m.between(from, to, all)
	if l := plain(tree.Range([]byte(from), []byte(to), all)); !slices.Equal(l, want) {
		t.Fatalf("Range from %q to %q, %v, of %v is %v, want %v", from, to, all, m, l, want)
	}
}

// checkTree holds all that a tree tells of its pairs against a model.
func checkTree(t *testing.T, tree *btree.Tree, m model) {
	t.Helper()
	checkSize(t, tree, m)
	checkRange(t, tree, m, "", "", true)
	for _, p := range m {
		if !tree.Has([]byte(p.key), p.num) {
			t.Fatalf("Has of %v is false in %v", p, m)
		}
	}
}

// checkPut puts a pair, and gives the model then.
func checkPut(t *testing.T, tree *btree.Tree, m model, p pair) model {
	t.Helper()
	if is, want := tree.Put([]byte(p.key), p.num), !m.has(p); is != want {
		t.Fatalf("Put of %v into %v is %v", p, m, is)
	}
	if !tree.Has([]byte(p.key), p.num) {
		t.Fatalf("Has of %v is false behind its Put", p)
	}
	m = m.put(p)
	checkSize(t, tree, m)
	return m
}

// checkDrop drops a pair, and gives the model then.
func checkDrop(t *testing.T, tree *btree.Tree, m model, p pair) model {
	t.Helper()
	if is, want := tree.Drop([]byte(p.key), p.num), m.has(p); is != want {
		t.Fatalf("Drop of %v from %v is %v", p, m, is)
	}
	if tree.Has([]byte(p.key), p.num) {
		t.Fatalf("Has of %v is true behind its Drop", p)
	}
	m = m.drop(p)
	checkSize(t, tree, m)
	return m
}

// key is a key of a number; they stand in order as the numbers do.
func key(n int) string {
	return string([]byte{byte(n >> 8), byte(n)})
}

// numbered is the pair of a number, whose keys have three numbers each.
func numbered(n int) pair {
	return pair{key(n / 3), n % 3}
}

// treeOf is a tree into which pairs were put in this order, and its model.
func treeOf(t *testing.T, l []pair) (*btree.Tree, model) {
	t.Helper()
	tree := btree.New()
	var m model
	for _, p := range l {
		if !tree.Put([]byte(p.key), p.num) {
			t.Fatalf("Put of %v is false", p)
		}
		m = m.put(p)
	}
	return tree, m
}

// orders are the numbers below n in orders of all kinds: rising, falling, from both ends, from the middle, and by steps.
func orders(n int) [][]int {
	l := make([][]int, 4)
	for k := range n {
		l[0] = append(l[0], k)
		l[1] = append(l[1], n-1-k)
		if k%2 == 0 {
			l[2] = append(l[2], k/2)
		} else {
			l[2] = append(l[2], n-1-k/2)
		}
		l[3] = append(l[3], (k+n/2)%n)
	}
	for _, step := range []int{3, 7, 61} {
		var by []int
		for from := range step {
			for k := from; k < n; k += step {
				by = append(by, k)
			}
		}
		l = append(l, by)
	}
	return l
}

// numberedAll are the pairs of numbers.
func numberedAll(l []int) []pair {
	var pairs []pair
	for _, n := range l {
		pairs = append(pairs, numbered(n))
	}
	return pairs
}

// someKeys are keys of all kinds: none, such as begin others, with the least and the greatest bytes, long ones.
func someKeys() []string {
	return []string{
		"", "\x00", "\x00\x00", "\x00\xff", "\x01", "a", "a\x00", "a\x00\x00", "a\xff", "aa", "ab", "abc", "b", "B",
		"\x7f", "\x80", "\x80\x00", "\xfe", "\xff", "\xff\x00", "\xff\xff", strings.Repeat("a", 1000), strings.Repeat("\xff", 300), strings.Repeat("\x00", 300),
	}
}

// someNums are numbers of all kinds.
func someNums() []int {
	return []int{least, least + 1, -1 << 32, -1, 0, 1, 2, 255, 256, 1 << 31, 1 << 32, most - 1, most}
}
