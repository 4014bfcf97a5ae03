package heap_test

import (
	"bytes"
	"slices"
	"testing"

	"registrar/api"
	"registrar/heap"
)

// walk makes all changes of a few kinds, so many behind one another. Each way goes on with a heap that is loaded of the pages of the way till there.
func walk(t *testing.T, m model, n int) {
	if n == 0 {
		checkHeap(t, load(t, m), m)
		return
	}
	for _, size := range []int{0, 130, 255} {
		walk(t, checkPut(t, load(t, m), m, long(size)), n-1)
	}
	at, _ := m.items()
	for _, at := range at {
		for _, size := range []int{1, 251} {
			walk(t, checkSet(t, load(t, m), m, at, long(size)), n-1)
		}
		walk(t, checkDrop(t, load(t, m), m, at), n-1)
	}
}

// P7.5: all short ways from a heap without pages, and from some others.
func TestShortWays(t *testing.T) {
	walk(t, nil, 5)
	walk(t, model{of(long(255), "-", "-", long(247)), nil, of("-", "x")}, 3)
	walk(t, model{nil, of(long(250), long(255)), holes(127, long(254))}, 3)
}

// dice are numbers that are always the same ones.
type dice struct{ seed uint32 }

// below is the next number, from 0 to n - 1.
func (d *dice) below(n int) int {
	d.seed = d.seed*1664525 + 1013904223
	return int(d.seed>>8) % n
}

// anywhere is a place that mostly is there.
func (d *dice) anywhere(m model) heap.Rid {
	at, _ := m.items()
	if len(at) == 0 || d.below(20) == 0 {
		return heap.Rid{Page: d.below(len(m)+2) - 1, Slot: d.below(6) - 1}
	}
	return at[d.below(len(at))]
}

// step makes one change, of which more are Puts the greater more is.
func step(t *testing.T, d *dice, h *heap.Heap, m model, size, more int) model {
	t.Helper()
	data := long(d.below(size))
	switch n := d.below(10); {
	case n < more:
		return checkPut(t, h, m, data)
	case n < 7:
		return checkSet(t, h, m, d.anywhere(m), data)
	}
	return checkDrop(t, h, m, d.anywhere(m))
}

// P7.5: long ways of one heap, on which it fills and empties again.
func TestLongWays(t *testing.T) {
	d := &dice{seed: 7}
	for _, size := range []int{3, 60, 257, 260} {
		var m model
		h := heap.New()
		for k := range 2400 {
			more := 6
			if k%800 > 500 {
				more = 1
			}
			m = step(t, d, h, m, size, more)
			if k%50 == 0 {
				checkHeap(t, h, m)
			}
		}
	}
}

// P7.5: a heap with hardly any room, in which what is refused changes nothing.
func TestFullWays(t *testing.T) {
	d := &dice{seed: 11}
	m := append(filled(62), holes(100, long(253), "x"), of(long(200), "-", "-", "-", long(240)))
	h := load(t, m)
	for k := range 1500 {
		m = step(t, d, h, m, 256, 6)
		if k%100 == 0 {
			checkHeap(t, h, m)
		}
	}
}

// P7.5: what was put is got as long as it is neither set nor dropped, wherever it is, and stays there.
func TestStays(t *testing.T) {
	h := heap.New()
	kept := map[heap.Rid]string{}
	for k := range 90 {
		data := long(k * 37 % 256)
		at, err := h.Put([]byte(data))
		if _, twice := kept[at]; twice || err != api.OK {
			t.Fatalf("Put is %v, %d", at, err)
		}
		kept[at] = data
		if k%3 == 2 {
			if err := h.Drop(at); err != api.OK {
				t.Fatalf("Drop is %d", err)
			}
			delete(kept, at)
		}
	}
	for k := range 30 {
		at := h.All()[k].At
		data := long(255 - k)
		to, err := h.Set(at, []byte(data))
		if err != api.OK {
			t.Fatalf("Set is %d", err)
		}
		delete(kept, at)
		if _, twice := kept[to]; twice {
			t.Fatalf("Set is at %v, where something is", to)
		}
		kept[to] = data
		checkKeptData(t, h, kept)
	}
}

// checkKeptData asks whether a heap has these data, and no others.
func checkKeptData(t *testing.T, h *heap.Heap, kept map[heap.Rid]string) {
	t.Helper()
	if n := h.Len(); n != len(kept) {
		t.Fatalf("Len is %d, want %d", n, len(kept))
	}
	for at, want := range kept {
		if data, err := h.Get(at); string(data) != want || err != api.OK {
			t.Fatalf("Get at %v is %q, %d; want %q", at, data, err, want)
		}
	}
}

// withSpare is a copy of bytes that has spare room, which is all sevens.
func withSpare(b []byte) []byte {
	spare := bytes.Repeat([]byte{7}, len(b)+600)
	copy(spare, b)
	return slices.Clip(spare)[:len(b)]
}

// spoil makes other bytes of all, the spare room too.
func spoil(b []byte) {
	b = b[:cap(b)]
	for i := range b {
		b[i] ^= 85
	}
}

// checkSpare asks whether bytes, and their spare room, are as they were.
func checkSpare(t *testing.T, b, was []byte) {
	t.Helper()
	if !bytes.Equal(b[:cap(b)], withSpare(was)[:cap(b)]) {
		t.Fatalf("%q was changed to %q", was, b[:cap(b)])
	}
}

// P7.1: pages that are handed in stay as they are, and are not kept; nor is the list of them.
func TestLoadOwn(t *testing.T) {
	for _, m := range someHeaps() {
		pages := make([][]byte, 70)
		for k := range pages {
			pages[k] = withSpare([]byte("spare"))
		}
		for k, p := range m.bytes() {
			pages[k] = withSpare(p)
		}
		given := pages[:len(m)]
		h, err := heap.Load(given)
		if err != api.OK {
			t.Fatalf("Load is %d", err)
		}
		then := m
		for _, data := range []string{"x", long(200), long(255)} {
			then = checkPut(t, h, then, data)
		}
		for k, p := range m.bytes() {
			checkSpare(t, given[k], p)
		}
		for _, p := range pages[len(m):] {
			checkSpare(t, p, []byte("spare"))
		}
		for k, p := range pages {
			spoil(p)
			pages[k] = nil
		}
		checkHeap(t, h, then)
	}
}

// P7.1, P7.2: what is answered is nobody else's.
func TestAnswersOwn(t *testing.T) {
	for _, m := range someHeaps() {
		h := load(t, m)
		pages, all := h.Pages(), h.All()
		for k, item := range all {
			data, _ := h.Get(item.At)
			spoil(data)
			spoil(item.Data)
			for _, other := range all[k+1:] {
				if string(other.Data) != m[other.At.Page][other.At.Slot].data {
					t.Fatalf("data at %v and %v share bytes", item.At, other.At)
				}
			}
		}
		for k, p := range pages {
			spoil(p)
			for i := k + 1; i < len(pages); i++ {
				if !bytes.Equal(pages[i], m[i].bytes()) {
					t.Fatalf("pages %d and %d share bytes", k, i)
				}
			}
		}
		clear(pages[:cap(pages)])
		clear(all[:cap(all)])
		checkHeap(t, h, m)
	}
}

// P7.2, P7.3: data that is handed in stays as it is, and is not kept.
func TestDataOwn(t *testing.T) {
	for _, m := range someHeaps() {
		for _, data := range []string{"", "x", long(50), long(255), long(256)} {
			h, then := load(t, m), m
			d := withSpare([]byte(data))
			h.Put(d)
			then, _, _ = then.put(data)
			checkSpare(t, d, []byte(data))
			spoil(d)
			checkPages(t, h, then)
			if at, _ := then.items(); len(at) > 0 {
				d = withSpare([]byte(data))
				h.Set(at[0], d)
				then, _, _ = then.set(at[0], data)
				checkSpare(t, d, []byte(data))
				spoil(d)
			}
			checkHeap(t, h, then)
		}
	}
}

// P7.5: a heap that is loaded of another one's pages goes its own way, and what was told of a heap stays as it was.
func TestTwoHeaps(t *testing.T) {
	for _, m := range someHeaps() {
		h := load(t, m)
		pages := h.Pages()
		other, err := heap.Load(pages)
		if err != api.OK {
			t.Fatalf("Load of Pages is %d", err)
		}
		then := checkPut(t, other, m, "x")
		if at, _ := m.items(); len(at) > 0 {
			then = checkSet(t, other, then, at[0], long(255))
			then = checkDrop(t, other, then, at[len(at)-1])
		}
		checkHeap(t, h, m)
		checkHeap(t, other, then)
		if !same(pages, m.bytes()) {
			t.Fatalf("Pages of %v were changed", m)
		}
	}
}
