package heap_test

import (
	"bytes"
	"slices"
	"testing"

	"registrar/api"
	"registrar/heap"
)

// load is a heap of a model's pages.
func load(t *testing.T, m model) *heap.Heap {
	t.Helper()
	h, err := heap.Load(m.bytes())
	if h == nil || err != api.OK {
		t.Fatalf("Load of %v is %v, %d", m, h, err)
	}
	return h
}

// same asks whether pages are one, byte by byte.
func same(a, b [][]byte) bool {
	return slices.EqualFunc(a, b, bytes.Equal)
}

// checkPages holds the pages of a heap against a model.
func checkPages(t *testing.T, h *heap.Heap, m model) {
	t.Helper()
	if l := h.Pages(); !same(l, m.bytes()) {
		t.Fatalf("Pages of %v are %q", m, l)
	}
}

// checkItems holds All and Len against a model.
func checkItems(t *testing.T, h *heap.Heap, m model) {
	t.Helper()
	at, data := m.items()
	if n := h.Len(); n != len(at) {
		t.Fatalf("Len of %v is %d, want %d", m, n, len(at))
	}
	all := h.All()
	if len(all) != len(at) {
		t.Fatalf("All of %v are %d, want %d", m, len(all), len(at))
	}
	for i, item := range all {
		if item.At != at[i] || string(item.Data) != data[i] {
			t.Fatalf("All of %v has %v, %q at %d; want %v, %q", m, item.At, item.Data, i, at[i], data[i])
		}
	}
}

// checkGet holds Get against a model.
func checkGet(t *testing.T, h *heap.Heap, m model, at heap.Rid) {
	t.Helper()
	want, err := "", api.ErrNone
	if m.has(at) {
		want, err = m[at.Page][at.Slot].data, api.OK
	}
	if data, e := h.Get(at); string(data) != want || e != err {
		t.Fatalf("Get of %v at %v is %q, %d; want %q, %d", m, at, data, e, want, err)
	}
}

// checkHeap holds all that a heap tells against a model.
func checkHeap(t *testing.T, h *heap.Heap, m model) {
	t.Helper()
	checkPages(t, h, m)
	checkItems(t, h, m)
	for k := range len(m) + 1 {
		checkGet(t, h, m, heap.Rid{Page: k})
	}
	for k, s := range m {
		for i := range len(s) + 1 {
			checkGet(t, h, m, heap.Rid{Page: k, Slot: i})
		}
	}
}

// checkPut puts data, and gives the model then.
func checkPut(t *testing.T, h *heap.Heap, m model, data string) model {
	t.Helper()
	then, want, err := m.put(data)
	if at, e := h.Put([]byte(data)); at != want || e != err {
		t.Fatalf("Put into %v of %d bytes is %v, %d; want %v, %d", m, len(data), at, e, want, err)
	}
	checkPages(t, h, then)
	return then
}

// checkSet sets data, and gives the model then.
func checkSet(t *testing.T, h *heap.Heap, m model, at heap.Rid, data string) model {
	t.Helper()
	then, want, err := m.set(at, data)
	if to, e := h.Set(at, []byte(data)); to != want || e != err {
		t.Fatalf("Set in %v at %v of %d bytes is %v, %d; want %v, %d", m, at, len(data), to, e, want, err)
	}
	checkPages(t, h, then)
	return then
}

// checkDrop drops data, and gives the model then.
func checkDrop(t *testing.T, h *heap.Heap, m model, at heap.Rid) model {
	t.Helper()
	then, err := m.drop(at)
	if e := h.Drop(at); e != err {
		t.Fatalf("Drop in %v at %v is %d, want %d", m, at, e, err)
	}
	checkPages(t, h, then)
	return then
}

// P7.1: a heap without pages; each call makes one of its own.
func TestNew(t *testing.T) {
	h := heap.New()
	checkHeap(t, h, nil)
	checkPut(t, h, nil, "abc")
	checkHeap(t, heap.New(), nil)
}

// P7.1, P7.2: the chapter's example, and some more by hand.
func TestByHand(t *testing.T) {
	h := heap.New()
	for i, want := range []heap.Rid{{0, 0}, {0, 1}, {1, 0}} {
		if at, err := h.Put(bytes.Repeat([]byte{byte(i)}, 200)); at != want || err != api.OK {
			t.Errorf("Put number %d is %v, %d", i, at, err)
		}
	}
	if at, err := h.Put([]byte("abc")); at != (heap.Rid{Page: 0, Slot: 2}) || err != api.OK {
		t.Errorf("Put of 3 bytes is %v, %d", at, err)
	}
	if l := h.Pages(); len(l) != 2 || string(l[0][:8]) != "\x00\x03\x00\xc9\x00\xc9\x00\x04" || string(l[1][:4]) != "\x00\x01\x00\xc9" {
		t.Errorf("Pages are %q", l)
	}
	var at []heap.Rid
	for _, item := range h.All() {
		at = append(at, item.At)
	}
	if want := []heap.Rid{{0, 0}, {0, 1}, {0, 2}, {1, 0}}; !slices.Equal(at, want) || h.Len() != 4 {
		t.Errorf("All are at %v, Len is %d", at, h.Len())
	}
	if data, err := h.Get(heap.Rid{Page: 0, Slot: 2}); string(data) != "abc" || err != api.OK {
		t.Errorf("Get is %q, %d", data, err)
	}
}

// P7.1: heaps of all kinds are loaded, and tell all that is in them.
func TestLoad(t *testing.T) {
	for _, m := range someHeaps() {
		h := load(t, m)
		checkHeap(t, h, m)
		for _, at := range somePlaces() {
			checkGet(t, h, m, at)
		}
	}
	if h, err := heap.Load([][]byte{}); h == nil || err != api.OK {
		t.Errorf("Load of an empty list is %v, %d", h, err)
	}
}

// checkRefused asks whether Load refuses pages.
func checkRefused(t *testing.T, pages [][]byte, want api.Errno) {
	t.Helper()
	if h, err := heap.Load(pages); h != nil || err != want {
		t.Fatalf("Load of %d pages is %v, %d; want %d", len(pages), h, err, want)
	}
}

// P7.1: more than 64 pages are ErrFull, whatever they are.
func TestLoadFull(t *testing.T) {
	checkRefused(t, filled(65).bytes(), api.ErrFull)
	checkRefused(t, make([][]byte, 65), api.ErrFull)
	checkRefused(t, make(model, 65).bytes(), api.ErrFull)
	checkRefused(t, append(filled(64), nil).bytes(), api.ErrFull)
	checkRefused(t, slices.Repeat(filled(1).bytes(), 1000), api.ErrFull)
	checkRefused(t, make([][]byte, 64), api.ErrForm)
}

// P7.1: what is no page is ErrForm wherever it is, and so is a last page without a slot that is not empty.
func TestLoadForm(t *testing.T) {
	gap := of("ab").bytes()
	gap[100] = 1
	behind := of("ab").bytes()
	behind[1] = 2
	for _, bad := range [][]byte{nil, {}, {0, 0}, make([]byte, 511), make([]byte, 513), bytes.Repeat([]byte{255}, 512), gap, behind} {
		for _, m := range []model{filled(1), filled(2), {nil, nil, of("x")}, filled(64)} {
			for k := range m {
				pages := m.bytes()
				pages[k] = bad
				checkRefused(t, pages, api.ErrForm)
			}
		}
	}
	for _, m := range []model{{nil}, {nil, nil}, {of("x"), nil}, {of("x"), nil, nil}, make(model, 64), append(filled(63), nil)} {
		checkRefused(t, m.bytes(), api.ErrForm)
	}
}

// P7.2, P7.3: each heap, with each data laid, set and dropped everywhere. One heap is asked of all places that are not there, since what is refused changes nothing.
func TestChanges(t *testing.T) {
	for _, m := range someHeaps() {
		refusing := load(t, m)
		for _, data := range someData() {
			h := load(t, m)
			checkItems(t, h, checkPut(t, h, m, data))
			for _, at := range somePlaces() {
				if m.has(at) {
					h := load(t, m)
					checkItems(t, h, checkSet(t, h, m, at, data))
				} else {
					checkSet(t, refusing, m, at, data)
				}
			}
		}
		for _, at := range somePlaces() {
			if m.has(at) {
				h := load(t, m)
				checkHeap(t, h, checkDrop(t, h, m, at))
			} else {
				checkDrop(t, refusing, m, at)
			}
		}
		checkHeap(t, refusing, m)
	}
}

// P7.2: data goes into the first page that takes it, into its first empty slot, and into a new page where none takes it.
func TestPutPlaces(t *testing.T) {
	m := model{of(long(255), long(251)), of("", "-", "", "-", ""), nil, of(long(255), "-", long(100)), of("x")}
	h := load(t, m)
	for _, x := range []struct {
		n    int
		want heap.Rid
	}{
		{0, heap.Rid{Page: 1, Slot: 1}}, {255, heap.Rid{Page: 1, Slot: 3}}, {244, heap.Rid{Page: 2, Slot: 0}}, {243, heap.Rid{Page: 1, Slot: 5}},
		{255, heap.Rid{Page: 2, Slot: 1}}, {150, heap.Rid{Page: 4, Slot: 1}}, {149, heap.Rid{Page: 3, Slot: 1}}, {255, heap.Rid{Page: 4, Slot: 2}},
		{97, heap.Rid{Page: 5, Slot: 0}}, {96, heap.Rid{Page: 4, Slot: 3}}, {5, heap.Rid{Page: 2, Slot: 2}}, {0, heap.Rid{Page: 5, Slot: 1}},
	} {
		if _, want, _ := m.put(long(x.n)); want != x.want {
			t.Errorf("%d bytes are put at %v of the model, want %v", x.n, want, x.want)
		}
		m = checkPut(t, h, m, long(x.n))
	}
	checkHeap(t, h, m)
}

// P7.2: 255 bytes go where 256 do not, and these are ErrLong in a full heap too.
func TestPutLong(t *testing.T) {
	for _, m := range []model{nil, filled(1), filled(64)} {
		for _, n := range []int{256, 257, 511, 512, 513, 65536} {
			if at, err := load(t, m).Put(make([]byte, n)); at != (heap.Rid{}) || err != api.ErrLong {
				t.Errorf("Put into %d pages of %d bytes is %v, %d", len(m), n, at, err)
			}
		}
	}
	if at, err := heap.New().Put(make([]byte, 255)); at != (heap.Rid{}) || err != api.OK {
		t.Errorf("Put of 255 bytes is %v, %d", at, err)
	}
}

// P7.2: a heap takes 64 pages, and nothing behind them; what still has room is laid.
func TestPutFull(t *testing.T) {
	var m model
	h := heap.New()
	for range 128 {
		m = checkPut(t, h, m, long(200))
	}
	if len(m) != 64 {
		t.Fatalf("there are %d pages", len(m))
	}
	for range 3 {
		m = checkPut(t, h, m, long(107))
		if at, err := h.Put(make([]byte, 200)); at != (heap.Rid{}) || err != api.ErrFull {
			t.Fatalf("Put into a full heap is %v, %d", at, err)
		}
	}
	m = checkPut(t, h, m, long(104))
	checkHeap(t, h, m)
	m = checkDrop(t, h, m, heap.Rid{Page: 40, Slot: 1})
	if at, err := h.Put(make([]byte, 200)); at != (heap.Rid{Page: 40, Slot: 1}) || err != api.OK {
		t.Fatalf("Put behind a Drop is %v, %d", at, err)
	}
}

// P7.3: ErrLong ahead of ErrNone, and that ahead of ErrFull.
func TestSetErrors(t *testing.T) {
	m := append(filled(63), of(long(253), "-", long(251)))
	for _, x := range []struct {
		at   heap.Rid
		n    int
		want api.Errno
	}{
		{heap.Rid{Page: 0, Slot: 0}, 256, api.ErrLong}, {heap.Rid{Page: 0, Slot: 2}, 256, api.ErrLong}, {heap.Rid{Page: 63, Slot: 1}, 300, api.ErrLong}, {heap.Rid{Page: 64}, 256, api.ErrLong}, {heap.Rid{Page: -1}, 256, api.ErrLong},
		{heap.Rid{Page: 0, Slot: 2}, 255, api.ErrNone}, {heap.Rid{Page: 63, Slot: 1}, 255, api.ErrNone}, {heap.Rid{Page: 64}, 0, api.ErrNone}, {heap.Rid{Page: -1}, 255, api.ErrNone}, {heap.Rid{Page: 0, Slot: -1}, 255, api.ErrNone},
		{heap.Rid{Page: 0, Slot: 0}, 254, api.ErrFull}, {heap.Rid{Page: 63, Slot: 0}, 254, api.ErrFull}, {heap.Rid{Page: 63, Slot: 2}, 255, api.ErrFull}, {heap.Rid{Page: 0, Slot: 0}, 253, api.OK}, {heap.Rid{Page: 63, Slot: 2}, 251, api.OK},
	} {
		h := load(t, m)
		want := heap.Rid{}
		if x.want == api.OK {
			want = x.at
		}
		if at, err := h.Set(x.at, make([]byte, x.n)); at != want || err != x.want {
			t.Errorf("Set at %v of %d bytes is %v, %d; want %v, %d", x.at, x.n, at, err, want, x.want)
		}
		if x.want != api.OK {
			checkHeap(t, h, m)
		}
	}
}

// P7.3: where data is that its page has no room for.
func TestSetPlaces(t *testing.T) {
	full := of(long(255), long(251))
	for _, x := range []struct {
		m    model
		at   heap.Rid
		n    int
		want heap.Rid
		then int
	}{
		// Another page, ahead or behind, an old one or a new one.
		{model{of("x"), full}, heap.Rid{Page: 1, Slot: 1}, 252, heap.Rid{Page: 0, Slot: 1}, 2},
		{model{full, of("x")}, heap.Rid{Page: 0, Slot: 1}, 252, heap.Rid{Page: 1, Slot: 1}, 2},
		{model{full}, heap.Rid{Page: 0, Slot: 1}, 252, heap.Rid{Page: 1, Slot: 0}, 2},
		{model{full, nil, of("x")}, heap.Rid{Page: 0, Slot: 1}, 252, heap.Rid{Page: 1, Slot: 0}, 3},
		// A slot ahead in the same page, when empty slots went along with the one that was dropped.
		{model{of(long(255), "-", "-", long(247))}, heap.Rid{Page: 0, Slot: 3}, 250, heap.Rid{Page: 0, Slot: 1}, 1},
		{model{of(long(255), "-", "-", long(247)), of("x")}, heap.Rid{Page: 0, Slot: 3}, 252, heap.Rid{Page: 1, Slot: 1}, 2},
		{model{of("-", long(255), "-", long(247))}, heap.Rid{Page: 0, Slot: 3}, 251, heap.Rid{Page: 0, Slot: 0}, 1},
		{model{holes(127, long(254))}, heap.Rid{Page: 0, Slot: 127}, 255, heap.Rid{Page: 0, Slot: 0}, 1},
		// The last page is let go for it, and so are those ahead of it that have nothing.
		{model{of("x"), holes(127, long(254))}, heap.Rid{Page: 1, Slot: 127}, 255, heap.Rid{Page: 0, Slot: 1}, 1},
		{model{of("x"), nil, nil, holes(127, long(254))}, heap.Rid{Page: 3, Slot: 127}, 255, heap.Rid{Page: 0, Slot: 1}, 1},
		{model{full, nil, nil, holes(127, long(254))}, heap.Rid{Page: 3, Slot: 127}, 255, heap.Rid{Page: 1, Slot: 0}, 2},
		{append(filled(63), holes(127, long(254))), heap.Rid{Page: 63, Slot: 127}, 255, heap.Rid{Page: 63, Slot: 0}, 64},
	} {
		h := load(t, x.m)
		if at, err := h.Set(x.at, []byte(long(x.n))); at != x.want || err != api.OK {
			t.Errorf("Set in %v at %v of %d bytes is %v, %d; want %v", x.m, x.at, x.n, at, err, x.want)
		}
		if l := h.Pages(); len(l) != x.then {
			t.Errorf("Set in %v at %v of %d bytes leaves %d pages, want %d", x.m, x.at, x.n, len(l), x.then)
		}
		if data, err := h.Get(x.want); string(data) != long(x.n) || err != api.OK {
			t.Errorf("Get at %v is %q, %d", x.want, data, err)
		}
		checkSet(t, load(t, x.m), x.m, x.at, long(x.n))
	}
}

// P7.3: the pages that a Drop lets go.
func TestDropPages(t *testing.T) {
	for _, x := range []struct {
		m    model
		at   heap.Rid
		then model
	}{
		{model{of("a")}, heap.Rid{Page: 0, Slot: 0}, nil},
		{model{of("a", "b")}, heap.Rid{Page: 0, Slot: 1}, model{of("a")}},
		{model{of("a"), of("b")}, heap.Rid{Page: 0, Slot: 0}, model{nil, of("b")}},
		{model{of("a"), of("b")}, heap.Rid{Page: 1, Slot: 0}, model{of("a")}},
		{model{nil, nil, of("-", "b")}, heap.Rid{Page: 2, Slot: 1}, nil},
		{model{nil, of("a"), nil, nil, of("b")}, heap.Rid{Page: 4, Slot: 0}, model{nil, of("a")}},
		{model{nil, of("a"), nil, nil, of("b", "c")}, heap.Rid{Page: 4, Slot: 0}, model{nil, of("a"), nil, nil, of("-", "c")}},
		{append(make(model, 63), of("")), heap.Rid{Page: 63, Slot: 0}, nil},
	} {
		h := load(t, x.m)
		if err := h.Drop(x.at); err != api.OK {
			t.Errorf("Drop in %v at %v is %d", x.m, x.at, err)
		}
		checkHeap(t, h, x.then)
		if err := h.Drop(x.at); err != api.ErrNone {
			t.Errorf("Drop at %v of what was dropped is %d", x.at, err)
		}
		checkHeap(t, h, x.then)
	}
}

// P7.4: nil Heaps, and those that no call made, refuse all.
func TestNil(t *testing.T) {
	for _, h := range []*heap.Heap{nil, {}, new(heap.Heap)} {
		for _, at := range append(somePlaces(), heap.Rid{}) {
			if data, err := h.Get(at); len(data) != 0 || err != api.ErrNil {
				t.Errorf("Get is %q, %d", data, err)
			}
			if err := h.Drop(at); err != api.ErrNil {
				t.Errorf("Drop is %d", err)
			}
			for _, n := range []int{0, 255, 256} {
				if to, err := h.Set(at, make([]byte, n)); to != (heap.Rid{}) || err != api.ErrNil {
					t.Errorf("Set is %v, %d", to, err)
				}
			}
		}
		for _, n := range []int{0, 255, 256} {
			if at, err := h.Put(make([]byte, n)); at != (heap.Rid{}) || err != api.ErrNil {
				t.Errorf("Put is %v, %d", at, err)
			}
		}
		if len(h.Pages()) != 0 || len(h.All()) != 0 || h.Len() != 0 {
			t.Errorf("Pages are %q, All %v, Len is %d", h.Pages(), h.All(), h.Len())
		}
	}
}
