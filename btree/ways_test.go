package btree_test

import (
	"bytes"
	"slices"
	"testing"

	"registrar/btree"
)

// permute hands on all orders of a list.
func permute(l []int, k int, use func([]int)) {
	if k == len(l) {
		use(l)
		return
	}
	for i := k; i < len(l); i++ {
		l[k], l[i] = l[i], l[k]
		permute(l, k+1, use)
		l[k], l[i] = l[i], l[k]
	}
}

// P8.1, P8.3: a tree of some pairs, into which a few are put, or from which a few are dropped, in all orders there are.
func TestAllOrders(t *testing.T) {
	for _, n := range []int{6, 9, 12, 36, 70} {
		whole := numberedAll(orders(n)[0])
		few := []int{0, n / 5, 2 * n / 5, 3 * n / 5, 4 * n / 5, n - 1}
		permute(few, 0, func(few []int) {
			tree, m := treeOf(t, whole)
			for _, k := range few {
				m = checkDrop(t, tree, m, whole[k])
			}
			checkTree(t, tree, m)
			for _, k := range few {
				m = checkPut(t, tree, m, whole[k])
			}
			checkTree(t, tree, m)
		})
	}
}

// P8.1, P8.3: all orders in which eight pairs are put, and then two more.
func TestAllPuts(t *testing.T) {
	permute([]int{1, 2, 3, 4, 6, 7, 8, 9}, 0, func(l []int) {
		tree := btree.New()
		for _, n := range append(slices.Clone(l), 0, 5) {
			tree.Put([]byte{byte(n / 4)}, n%4)
		}
		got := tree.Range(nil, nil, true)
		if len(got) != 10 || tree.Len() != 10 || tree.Depth() != 2 || !tree.Check() {
			t.Fatalf("Range behind Puts of %v is %v", l, got)
		}
		for n, p := range got {
			if string(p.Key) != string([]byte{byte(n / 4)}) || p.Num != n%4 {
				t.Fatalf("Range behind Puts of %v is %v", l, got)
			}
		}
	})
}

// dice are numbers that are always the same ones.
type dice struct{ seed uint32 }

// below is the next number, from 0 to n - 1.
func (d *dice) below(n int) int {
	d.seed = d.seed*1664525 + 1013904223
	return int(d.seed>>8) % n
}

// P8.1, P8.2, P8.3: long ways of one tree, on which it fills and empties again.
func TestLongWays(t *testing.T) {
	d := &dice{seed: 5}
	for _, size := range []int{5, 20, 60, 200, 500} {
		tree := btree.New()
		var m model
		for k := range 6000 {
			p := numbered(d.below(size))
			more := 7
			if k%1500 > 750 {
				more = 3
			}
			if d.below(10) < more {
				m = checkPut(t, tree, m, p)
			} else {
				m = checkDrop(t, tree, m, p)
			}
			if k%25 == 0 {
				checkTree(t, tree, m)
				checkRange(t, tree, m, key(d.below(size)/3), key(d.below(size)/3), false)
			}
		}
	}
}

// withSpare is a copy of bytes that has spare room, which is all sevens.
func withSpare(b []byte) []byte {
	spare := bytes.Repeat([]byte{7}, len(b)+40)
	copy(spare, b)
	return spare[:len(b)]
}

// spoil makes other bytes of all, the spare room too.
func spoil(b []byte) {
	b = b[:cap(b)]
	for i := range b {
		b[i] ^= 85
	}
}

// spared hands on a key with spare room, asks whether it stayed as it was, and spoils it.
func spared(t *testing.T, k string, use func([]byte)) {
	t.Helper()
	b := withSpare([]byte(k))
	use(b)
	if want := withSpare([]byte(k)); !bytes.Equal(b[:cap(b)], want[:cap(want)]) {
		t.Fatalf("%q was changed to %q", k, b[:cap(b)])
	}
	spoil(b)
}

// P8.4: keys that are handed in stay as they are, and are not kept.
func TestKeysOwn(t *testing.T) {
	tree := btree.New()
	var m model
	for _, n := range orders(200)[4] {
		p := numbered(n)
		spared(t, p.key, func(b []byte) { tree.Put(b, p.num) })
		m = m.put(p)
		spared(t, p.key, func(b []byte) { tree.Put(b, p.num) })
		spared(t, p.key, func(b []byte) { tree.Has(b, p.num) })
		spared(t, p.key, func(b []byte) { tree.Range(b, b, true) })
		spared(t, p.key, func(b []byte) { tree.Range(nil, b, false) })
	}
	checkTree(t, tree, m)
	for _, n := range orders(200)[5][:150] {
		p := numbered(n)
		spared(t, p.key, func(b []byte) { tree.Drop(b, p.num) })
		m = m.drop(p)
		spared(t, p.key, func(b []byte) { tree.Drop(b, p.num) })
	}
	checkTree(t, tree, m)
}

// P8.4: one list of bytes is put again and again, with other bytes each time.
func TestOneList(t *testing.T) {
	tree := btree.New()
	var m model
	b := make([]byte, 2)
	for n := range 200 {
		copy(b, key(n))
		tree.Put(b, n)
		m = m.put(pair{key(n), n})
	}
	checkTree(t, tree, m)
}

// P8.2, P8.4: what is answered is nobody else's.
func TestAnswersOwn(t *testing.T) {
	tree, m := treeOf(t, numberedAll(orders(120)[6]))
	l := tree.Range(nil, nil, true)
	for k, p := range l {
		spoil(p.Key)
		if rest := plain(l[k+1:]); !slices.Equal(rest, m[k+1:]) {
			t.Fatalf("keys from %d on share bytes", k)
		}
	}
	l = l[:cap(l)]
	for k := range l {
		l[k] = btree.Pair{Key: []byte("x"), Num: -1}
	}
	checkTree(t, tree, m)
}

// P8.2: what was told of a tree stays as it was, whatever is put and dropped then.
func TestAnswersStay(t *testing.T) {
	tree, m := treeOf(t, numberedAll(orders(120)[0]))
	l := tree.Range(nil, nil, true)
	for k, p := range m {
		tree.Drop([]byte(p.key), p.num)
		tree.Put([]byte(p.key), k+1000)
	}
	if !slices.Equal(plain(l), m) {
		t.Fatal("what Range had told was changed")
	}
}

// P8.1: two trees have nothing in common, though one got what the other one told.
func TestTwoTrees(t *testing.T) {
	tree, m := treeOf(t, numberedAll(orders(100)[2]))
	other := btree.New()
	var then model
	for _, p := range tree.Range(nil, nil, true) {
		other.Put(p.Key, p.Num)
		then = then.put(pair{string(p.Key), p.Num})
	}
	for k, p := range m {
		if k%3 == 0 {
			then = checkDrop(t, other, then, p)
		}
		then = checkPut(t, other, then, pair{p.key, p.num + 7})
	}
	checkTree(t, tree, m)
	checkTree(t, other, then)
}
