package btree

import (
	"slices"
	"testing"
)

// leafOf is a leaf of so many pairs.
func leafOf(n int) *node {
	return &node{pairs: make([]Pair, n)}
}

// over is a node above others.
func over(kids ...*node) *node {
	return &node{kids: kids}
}

// leaves is a node above so many leaves of four pairs each.
func leaves(n int) *node {
	top := &node{}
	for range n {
		top.kids = append(top.kids, leafOf(4))
	}
	return top
}

// fill gives a node's pairs keys and numbers that rise, from one on, and tells how many there are.
func fill(n *node, from int) int {
	for k := range n.pairs {
		n.pairs[k] = Pair{Key: []byte{byte((from + k) / 2)}, Num: (from + k) % 2}
	}
	count := len(n.pairs)
	for _, kid := range n.kids {
		count += fill(kid, from+count)
	}
	return count
}

// treeAt is a tree of that topmost node, whose pairs rise.
func treeAt(top *node) *Tree {
	return &Tree{top: top, n: fill(top, 0)}
}

// P8.3: Check asks how much is in each node, and at which depth the leaves are.
func TestCheckShapes(t *testing.T) {
	for k, x := range []struct {
		top  *node
		want bool
	}{
		{leafOf(0), true}, {leafOf(1), true}, {leafOf(3), true}, {leafOf(8), true}, {leafOf(9), false},
		{leaves(1), false}, {leaves(2), true}, {leaves(8), true}, {leaves(9), false},
		{over(leafOf(4), leafOf(8)), true}, {over(leafOf(3), leafOf(8)), false}, {over(leafOf(8), leafOf(3)), false},
		{over(leafOf(4), leafOf(9)), false}, {over(leafOf(9), leafOf(4)), false}, {over(leafOf(4), leafOf(0)), false},
		{over(leaves(4), leaves(8)), true}, {over(leaves(3), leaves(8)), false}, {over(leaves(4), leaves(3)), false},
		{over(leaves(4), leaves(9)), false}, {over(leaves(9), leaves(4)), false}, {over(leaves(4)), false},
		{over(leaves(4), leafOf(4)), false}, {over(leafOf(4), leaves(4)), false}, {over(leafOf(8), leafOf(8), leaves(4)), false},
		{over(leaves(4), over(leafOf(4), leafOf(4), leafOf(4), leafOf(3))), false},
		{over(leaves(4), over(leafOf(4), leafOf(4), leafOf(4), leaves(4))), false},
		{over(over(leaves(4), leaves(4), leaves(4), leaves(4)), over(leaves(4), leaves(4), leaves(4), leaves(4))), true},
		{over(over(leaves(4), leaves(4), leaves(4), leaves(4)), leaves(8)), false},
		{&node{pairs: make([]Pair, 2), kids: []*node{leafOf(4), leafOf(4)}}, false},
	} {
		if is := treeAt(x.top).Check(); is != x.want {
			t.Errorf("Check of tree number %d is %v", k, is)
		}
	}
}

// P8.3: Check asks whether the pairs are in order, each once, and whether Len is how many there are.
func TestCheckOrder(t *testing.T) {
	shapes := []func() *node{
		func() *node { return leafOf(8) },
		func() *node { return over(leafOf(5), leafOf(4), leafOf(8)) },
		func() *node { return over(leaves(4), leaves(5)) },
	}
	for _, shape := range shapes {
		for k := range treeAt(shape()).n - 1 {
			tree := treeAt(shape())
			at, next := nth(tree.top, k), nth(tree.top, k+1)
			*at, *next = *next, *at
			if tree.Check() {
				t.Errorf("Check is true, though pair number %d stands behind the next one", k)
			}
			*at = *next
			if tree.Check() {
				t.Errorf("Check is true, though pair number %d is there twice", k)
			}
		}
		for _, more := range []int{-1, 1} {
			tree := treeAt(shape())
			tree.n += more
			if tree.Check() {
				t.Error("Check is true, though Len is not how many pairs there are")
			}
		}
	}
}

// nth is a pair of a node, by how many stand ahead of it; nil, if there are not so many.
func nth(n *node, k int) *Pair {
	if k < len(n.pairs) {
		return &n.pairs[k]
	}
	k -= len(n.pairs)
	for _, kid := range n.kids {
		if p := nth(kid, k); p != nil {
			return p
		}
		k -= count(kid)
	}
	return nil
}

// count is how many pairs a node has.
func count(n *node) int {
	c := len(n.pairs)
	for _, kid := range n.kids {
		c += count(kid)
	}
	return c
}

// depths are the depths at which a node's leaves are.
func depths(n *node, at int) []int {
	if len(n.kids) == 0 {
		return []int{at}
	}
	var l []int
	for _, kid := range n.kids {
		l = append(l, depths(kid, at+1)...)
	}
	return l
}

// inBounds asks whether all nodes below one have from four to eight pairs or children.
func inBounds(n *node) bool {
	for _, kid := range n.kids {
		if s := len(kid.pairs) + len(kid.kids); s < 4 || s > 8 || len(kid.pairs)*len(kid.kids) > 0 || !inBounds(kid) {
			return false
		}
	}
	return true
}

// checkShape asks whether a tree is as the chapter's words say, without asking Check.
func checkShape(t *testing.T, tree *Tree, n int) {
	t.Helper()
	if !inBounds(tree.top) || len(tree.top.pairs) > 8 || len(tree.top.kids) > 8 || len(tree.top.kids) == 1 || len(tree.top.pairs)*len(tree.top.kids) > 0 {
		t.Fatalf("a node of a tree of %d pairs is too full or too empty", n)
	}
	l := slices.Compact(depths(tree.top, 1))
	if len(l) != 1 || n > 0 && l[0] != tree.Depth() || n == 0 && tree.Depth() != 0 {
		t.Fatalf("leaves of a tree of %d pairs are at the depths %v, Depth is %d", n, l, tree.Depth())
	}
	if c := count(tree.top); c != n || tree.Len() != n || !tree.Check() {
		t.Fatalf("a tree of %d pairs has %d, Len is %d, Check %v", n, c, tree.Len(), tree.Check())
	}
	for k := range n - 1 {
		p, q := nth(tree.top, k), nth(tree.top, k+1)
		if string(p.Key) > string(q.Key) || string(p.Key) == string(q.Key) && p.Num >= q.Num {
			t.Fatalf("pair number %d of %d is not ahead of the next one", k, n)
		}
	}
}

// P8.3: a tree is as the chapter's words say, whatever is put and dropped.
func TestShapes(t *testing.T) {
	const all = 257
	for _, step := range []int{1, 2, 16, 100, 101, 255, 256} {
		for _, back := range []int{1, 3, 128, 254, 256} {
			tree := New()
			for k := range all {
				n := k * step % all
				tree.Put([]byte{byte(n / 4)}, n%4)
				checkShape(t, tree, k+1)
			}
			for k := range all {
				n := k * back % all
				tree.Drop([]byte{byte(n / 4)}, n%4)
				checkShape(t, tree, all-1-k)
			}
		}
	}
}

// Nodes are found by halves: search is right, asks only of places that there are, and of few of them.
func TestSearch(t *testing.T) {
	for n := range 70 {
		few := 0
		for room := 1; room <= n; room *= 2 {
			few++
		}
		for first := range n + 1 {
			asked := 0
			at := search(n, func(at int) bool {
				if at < 0 || at >= n {
					t.Fatalf("search asks of place %d of %d", at, n)
				}
				asked++
				return at >= first
			})
			if at != first || asked > few {
				t.Errorf("search of %d for %d is %d, by %d questions", n, first, at, asked)
			}
		}
	}
}

// Pairs are told as long as more are asked for, and no longer.
func TestEachStops(t *testing.T) {
	tree := treeAt(over(leaves(4), leaves(5)))
	for from := range tree.n {
		for more := 1; more <= tree.n-from; more++ {
			told := 0
			whole := tree.top.each(*nth(tree.top, from), func(Pair) bool {
				told++
				return told < more
			})
			if told != more || whole {
				t.Errorf("each from %d on told %d pairs, want %d", from, told, more)
			}
		}
	}
}

// What is split keeps nothing of the other half, and neither half writes into the other one.
func TestHalves(t *testing.T) {
	for n := range 12 {
		l := make([]int, n, 20)
		for k := range l {
			l[k] = k + 1
		}
		front, back := halves(l)
		if len(front) != n/2 || len(front)+len(back) != n {
			t.Errorf("halves of %d are %v, %v", n, front, back)
		}
		if slices.ContainsFunc(l[n/2:], func(x int) bool { return x != 0 }) {
			t.Errorf("halves of %d leave %v behind the front", n, l[n/2:])
		}
		_ = append(front, -1, -2, -3)
		for k, x := range back {
			if x != n/2+k+1 {
				t.Errorf("halves of %d share room: %v", n, back)
			}
		}
	}
}
