package btree_test

import (
	"slices"
	"testing"

	"registrar/btree"
)

// P8.1, P8.3: a tree without pairs; each call makes one of its own.
func TestNew(t *testing.T) {
	tree := btree.New()
	checkTree(t, tree, nil)
	if tree.Depth() != 0 || tree.Has(nil, 0) || tree.Drop(nil, 0) || len(tree.Range(nil, nil, true)) != 0 {
		t.Error("a new tree has something")
	}
	checkPut(t, tree, nil, pair{"a", 1})
	checkTree(t, btree.New(), nil)
}

// P8.1: what Put, Drop, Has and Len tell, by hand.
func TestByHand(t *testing.T) {
	tree := btree.New()
	for _, x := range []struct {
		call string
		is   bool
		want bool
		n    int
	}{
		{"Has", tree.Has([]byte("a"), 1), false, 0}, {"Drop", tree.Drop([]byte("a"), 1), false, 0},
		{"Put", tree.Put([]byte("a"), 1), true, 1}, {"Put", tree.Put([]byte("a"), 1), false, 1}, {"Has", tree.Has([]byte("a"), 1), true, 1},
		{"Has", tree.Has([]byte("a"), 2), false, 1}, {"Has", tree.Has([]byte("b"), 1), false, 1}, {"Has", tree.Has(nil, 1), false, 1},
		{"Put", tree.Put([]byte("a"), 2), true, 2}, {"Put", tree.Put([]byte("b"), 1), true, 3}, {"Put", tree.Put(nil, 1), true, 4},
		{"Put", tree.Put([]byte{}, 1), false, 4}, {"Has", tree.Has([]byte{}, 1), true, 4}, {"Has", tree.Has([]byte("a"), 1), true, 4},
		{"Drop", tree.Drop([]byte("a"), 3), false, 4}, {"Drop", tree.Drop([]byte("a"), 1), true, 3}, {"Drop", tree.Drop([]byte("a"), 1), false, 3},
		{"Has", tree.Has([]byte("a"), 1), false, 3}, {"Has", tree.Has([]byte("a"), 2), true, 3}, {"Put", tree.Put([]byte("a"), 1), true, 4},
	} {
		if x.is != x.want {
			t.Errorf("%s of %d pairs is %v", x.call, x.n, x.is)
		}
	}
	checkTree(t, tree, model{{"", 1}, {"a", 1}, {"a", 2}, {"b", 1}})
}

// P8.2: what Range tells, by hand.
func TestRangeByHand(t *testing.T) {
	tree, _ := treeOf(t, []pair{{"b", 2}, {"ab", -1}, {"b", -2}, {"a", 0}, {"c", 5}, {"", 9}})
	for _, x := range []struct {
		from, to string
		all      bool
		want     []pair
	}{
		{"", "", false, nil}, {"", "\x00", false, []pair{{"", 9}}}, {"", "b", false, []pair{{"", 9}, {"a", 0}, {"ab", -1}}},
		{"a", "b", false, []pair{{"a", 0}, {"ab", -1}}}, {"a\x00", "b\x00", false, []pair{{"ab", -1}, {"b", -2}, {"b", 2}}},
		{"b", "b", false, nil}, {"c", "a", false, nil}, {"c", "d", false, []pair{{"c", 5}}}, {"d", "e", false, nil},
		{"b", "", true, []pair{{"b", -2}, {"b", 2}, {"c", 5}}}, {"b", "c", true, []pair{{"b", -2}, {"b", 2}, {"c", 5}}}, {"d", "a", true, nil},
	} {
		if l := plain(tree.Range([]byte(x.from), []byte(x.to), x.all)); !slices.Equal(l, x.want) {
			t.Errorf("Range from %q to %q, %v, is %v", x.from, x.to, x.all, l)
		}
	}
	if l := tree.Range(nil, nil, true); len(l) != 6 {
		t.Errorf("Range of all is %v", l)
	}
	if l := tree.Range(nil, nil, false); len(l) != 0 {
		t.Errorf("Range ahead of no bytes is %v", l)
	}
}

// P8.3: the chapter's example, and Depth by hand.
func TestDepth(t *testing.T) {
	tree := btree.New()
	for n := range 9 {
		want := 1
		if n == 0 {
			want = 0
		}
		if d := tree.Depth(); d != want {
			t.Errorf("Depth of %d pairs is %d", n, d)
		}
		tree.Put([]byte{byte(n * 7)}, n)
	}
	if d := tree.Depth(); d != 2 {
		t.Errorf("Depth of nine pairs is %d", d)
	}
	for n := 8; n >= 0; n-- {
		tree.Drop([]byte{byte(n * 7)}, n)
		if d := tree.Depth(); d < minDepth(n) || d > maxDepth(n) {
			t.Errorf("Depth of %d pairs is %d", n, d)
		}
	}
}

// P8.1, P8.2: pairs of all kinds of keys and numbers stand in order, however they were put.
func TestKinds(t *testing.T) {
	var all []pair
	for _, k := range someKeys() {
		for _, n := range someNums() {
			all = append(all, pair{k, n})
		}
	}
	for _, order := range orders(len(all)) {
		var l []pair
		for _, at := range order {
			l = append(l, all[at])
		}
		tree, m := treeOf(t, l)
		checkTree(t, tree, m)
		for _, from := range someKeys() {
			for _, to := range someKeys() {
				checkRange(t, tree, m, from, to, false)
				checkRange(t, tree, m, from, to, true)
			}
		}
	}
}

// P8.1: pairs of all kinds are asked of a tree that has some of them.
func TestHas(t *testing.T) {
	d := &dice{seed: 3}
	for _, sparse := range []int{1, 2, 5, 40} {
		tree := btree.New()
		var m model
		for _, k := range someKeys() {
			for _, n := range someNums() {
				if d.below(sparse) == 0 {
					m = checkPut(t, tree, m, pair{k, n})
				}
			}
		}
		for _, k := range someKeys() {
			for _, n := range someNums() {
				if is := tree.Has([]byte(k), n); is != m.has(pair{k, n}) {
					t.Fatalf("Has of %q, %d is %v", k, n, is)
				}
			}
		}
	}
}

// P8.2: all ranges of trees of all small sizes, between keys that are there, and between such as are not.
func TestRanges(t *testing.T) {
	for n := range 80 {
		var l []pair
		for k := range n {
			l = append(l, pair{key(2 * (k / 2)), k % 2})
		}
		tree, m := treeOf(t, l)
		for from := range n + 2 {
			for to := range n + 2 {
				checkRange(t, tree, m, key(from), key(to), false)
			}
			checkRange(t, tree, m, key(from), "", true)
			checkRange(t, tree, m, key(from), key(from), true)
		}
	}
}

// P8.2: many pairs of one key are told by their numbers, all or none.
func TestOneKey(t *testing.T) {
	tree := btree.New()
	var m model
	for k := range 300 {
		m = checkPut(t, tree, m, pair{"k", (k*77)%300 - 150})
	}
	m = checkPut(t, tree, m, pair{"j", 0})
	m = checkPut(t, tree, m, pair{"l", 0})
	for _, from := range []string{"", "j", "k", "k\x00", "l", "m"} {
		for _, to := range []string{"", "j", "k", "k\x00", "l", "m"} {
			checkRange(t, tree, m, from, to, false)
			checkRange(t, tree, m, from, to, true)
		}
	}
}

// P8.1, P8.3: trees grow and shrink in orders of all kinds, and are right all the while.
func TestOrders(t *testing.T) {
	for _, n := range []int{1, 8, 9, 17, 33, 100, 300} {
		for _, up := range orders(n) {
			for _, down := range orders(n) {
				tree := btree.New()
				var m model
				for _, p := range numberedAll(up) {
					m = checkPut(t, tree, m, p)
				}
				checkTree(t, tree, m)
				for k, p := range numberedAll(down) {
					m = checkDrop(t, tree, m, p)
					if k%16 == 0 {
						checkTree(t, tree, m)
					}
				}
				checkTree(t, tree, m)
			}
		}
	}
}

// P8.1, P8.3: each one dropped, and each one put between, from trees of all small sizes.
func TestOneMore(t *testing.T) {
	for n := range 90 {
		var l []pair
		for k := range n {
			l = append(l, pair{key(2*k + 1), 0})
		}
		for k := range n {
			tree, m := treeOf(t, l)
			m = checkDrop(t, tree, m, l[k])
			checkTree(t, tree, m)
		}
		for k := range n + 1 {
			tree, m := treeOf(t, l)
			m = checkPut(t, tree, m, pair{key(2 * k), 0})
			checkTree(t, tree, m)
		}
	}
}

// P8.1, P8.3: what is put twice, or dropped though it is not there, changes nothing.
func TestRefused(t *testing.T) {
	for _, n := range []int{0, 1, 8, 9, 40, 200} {
		tree, m := treeOf(t, numberedAll(orders(n)[3]))
		depth := tree.Depth()
		for _, p := range m {
			checkPut(t, tree, m, p)
			checkDrop(t, tree, m, pair{p.key, p.num + 3})
			checkDrop(t, tree, m, pair{p.key + "\x00", p.num})
		}
		checkTree(t, tree, m)
		if d := tree.Depth(); d != depth {
			t.Errorf("Depth of %d pairs was %d, and is %d", n, depth, d)
		}
	}
}

// P8.3: a tree of many pairs is as it must be, and is as deep as it may be, while it grows and shrinks.
func TestMany(t *testing.T) {
	const many = 20000
	tree := btree.New()
	check := func(n int) {
		if n%501 == 0 && !tree.Check() || tree.Len() != n || tree.Depth() > maxDepth(n) || tree.Depth() < minDepth(n) {
			t.Fatalf("of %d pairs Len is %d, Depth %d, Check %v", n, tree.Len(), tree.Depth(), tree.Check())
		}
	}
	for k := range many {
		n := k * 7919 % many
		if !tree.Put([]byte(key(n)), n) {
			t.Fatalf("Put of %d is false", n)
		}
		check(k + 1)
	}
	for n, p := range tree.Range(nil, nil, true) {
		if string(p.Key) != key(n) || p.Num != n {
			t.Fatalf("number %d is %v", n, p)
		}
	}
	for k := range many {
		n := k * 6131 % many
		if !tree.Drop([]byte(key(n)), n) {
			t.Fatalf("Drop of %d is false", n)
		}
		check(many - 1 - k)
	}
}

// P8.4: nil Trees, and those that no call made, have nothing and take nothing.
func TestNil(t *testing.T) {
	for _, tree := range []*btree.Tree{nil, {}, new(btree.Tree)} {
		for range 2 {
			for _, k := range []string{"", "a"} {
				if tree.Put([]byte(k), 1) || tree.Has([]byte(k), 1) || tree.Drop([]byte(k), 1) || tree.Put(nil, 0) {
					t.Error("a tree that no call made has something")
				}
				if l := tree.Range(nil, []byte(k), true); len(l) != 0 {
					t.Errorf("Range is %v", l)
				}
				if l := tree.Range([]byte(k), []byte("b"), false); len(l) != 0 {
					t.Errorf("Range is %v", l)
				}
			}
			if tree.Len() != 0 || tree.Depth() != 0 || tree.Check() {
				t.Errorf("Len is %d, Depth %d, Check %v", tree.Len(), tree.Depth(), tree.Check())
			}
		}
	}
}
