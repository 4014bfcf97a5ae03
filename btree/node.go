package btree

import "slices"

// How many pairs a leaf has, and children another node, at most and at least; and how many children the topmost node at least.
const (
	most      = 8
	fewest    = 4
	fewestTop = 2
)

// slot is a place among the pairs of a leaf, branch one among the children of another node.
type (
	slot   int
	branch int
)

// node is a leaf, which has pairs, or one above others, which has children. Only the topmost node of a tree without pairs has neither. What pairs a child has is asked of its leaves and not kept above them, so that there is nothing up there that a change could leave behind.
type node struct {
	pairs []Pair
	kids  []*node
}

// leaf asks whether a node has no others below it.
func (n *node) leaf() bool {
	return len(n.kids) == 0
}

// size is how many pairs, or children, a node has.
func (n *node) size() int {
	return len(n.pairs) + len(n.kids)
}

// depth is how many nodes stand one above the other, from this one to the first leaf.
func (n *node) depth() int {
	if n.leaf() {
		return 1
	}
	return 1 + n.kids[0].depth()
}

// least is the first of a node's pairs.
func (n *node) least() Pair {
	for !n.leaf() {
		n = n.kids[0]
	}
	return n.pairs[0]
}

// search finds by halves the first of n places of which a question is answered by yes, as it is of all behind it; n, if it is of none.
func search[P ~int](n P, ask func(at P) bool) P {
	var from P
	to := n
	for from < to {
		half := from + (to-from)/2
		if ask(half) {
			to = half
		} else {
			from = half + 1
		}
	}
	return from
}

// find is where a leaf has a pair, or would have it, and whether it is there.
func (n *node) find(p Pair) (slot, bool) {
	end := slot(len(n.pairs))
	at := search(end, func(at slot) bool { return !n.pairs[at].ahead(p) })
	return at, at < end && !p.ahead(n.pairs[at])
}

// way is the child where a pair belongs: the last one that does not begin behind it, or else the first one.
func (n *node) way(p Pair) branch {
	behind := search(branch(len(n.kids)), func(at branch) bool { return p.ahead(n.kids[at].least()) })
	return max(behind-1, 0)
}

// has asks whether a pair is there.
func (n *node) has(p Pair) bool {
	for !n.leaf() {
		n = n.kids[n.way(p)]
	}
	_, there := n.find(p)
	return there
}

// each tells the pairs that are not ahead of one, in order, as long as more are asked for. It tells whether they still are behind the last one.
func (n *node) each(from Pair, tell func(Pair) bool) bool {
	at, _ := n.find(from)
	for _, p := range n.pairs[at:] {
		if !tell(p) {
			return false
		}
	}
	for _, kid := range n.kids[n.way(from):] {
		if !kid.each(from, tell) {
			return false
		}
	}
	return true
}

// change has something done to the leaf where a pair belongs, and tells whether that was changed. If so, each child that it went through is mended on the way back.
func (n *node) change(p Pair, do func(leaf *node) bool) bool {
	if n.leaf() {
		return do(n)
	}
	at := n.way(p)
	if !n.kids[at].change(p, do) {
		return false
	}
	n.mend(at)
	return true
}

// mend joins a child that is too empty with the one beside it, and splits one that is too full, be it by that or by what was put in.
func (n *node) mend(at branch) {
	if n.kids[at].size() < fewest {
		at = n.join(at)
	}
	if n.kids[at].size() > most {
		n.split(at)
	}
}

// join makes one of a child and the one ahead of it (of the first one, and the one behind it), and tells where that is.
func (n *node) join(at branch) branch {
	at = max(at-1, 0)
	kid, next := n.kids[at], n.kids[at+1]
	kid.pairs = append(kid.pairs, next.pairs...)
	kid.kids = append(kid.kids, next.kids...)
	n.kids = slices.Delete(n.kids, int(at)+1, int(at)+2)
	return at
}

// split makes two of a child.
func (n *node) split(at branch) {
	kid, next := n.kids[at], &node{}
	kid.pairs, next.pairs = halves(kid.pairs)
	kid.kids, next.kids = halves(kid.kids)
	n.kids = slices.Insert(n.kids, int(at)+1, next)
}

// halves are the front of a list, and a list of its own of what is behind. The front keeps none of that in its spare room.
func halves[T any](l []T) (front, back []T) {
	half := len(l) / 2
	back = slices.Clone(l[half:])
	return slices.Delete(l, half, len(l)), back
}

// fewestOnTop is how many pairs, or children, a node has at least, if it is the topmost one.
func (n *node) fewestOnTop() int {
	if n.leaf() {
		return 0
	}
	return fewestTop
}

// sound asks whether a node has so many pairs or children at least, and all nodes below it as many as they must, whether its leaves are the last of so many nodes one above the other, and whether each of its pairs rises.
func (n *node) sound(atLeast, depth int, rises func(Pair) bool) bool {
	if n.size() < atLeast || n.size() > most || n.leaf() != (depth == 1) || !n.leaf() && len(n.pairs) > 0 {
		return false
	}
	for _, p := range n.pairs {
		if !rises(p) {
			return false
		}
	}
	for _, kid := range n.kids {
		if !kid.sound(fewest, depth-1, rises) {
			return false
		}
	}
	return true
}
