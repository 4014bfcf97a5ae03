package heap_test

import (
	"slices"
	"strings"

	"registrar/api"
	"registrar/heap"
)

const (
	most  = 1<<63 - 1
	least = -1 << 63
)

// slot is what a slot has.
type slot struct {
	full bool
	data string
}

// sheet is the slots of a page.
type sheet []slot

// model is what a heap is by the chapter's words: the slots of its pages. It is never written to.
type model []sheet

// of is a sheet with these data; slots of "-" are empty.
func of(data ...string) sheet {
	var s sheet
	for _, d := range data {
		if d == "-" {
			s = append(s, slot{})
		} else {
			s = append(s, slot{true, d})
		}
	}
	return s
}

// long is data of so many bytes, each unlike the next one.
func long(n int) string {
	b := make([]byte, n)
	for i := range b {
		b[i] = byte(i*7 + n)
	}
	return string(b)
}

// holes are so many empty slots, and data behind them.
func holes(n int, data ...string) sheet {
	return of(append(slices.Repeat([]string{"-"}, n), data...)...)
}

// room is how many noughts a page of these slots has; below 0, if there is no such page.
func (s sheet) room() int {
	n := 512 - 2 - 2*len(s)
	for _, x := range s {
		n -= len(x.data)
	}
	return n
}

// bytes are the page of these slots.
func (s sheet) bytes() []byte {
	p := []byte{byte(len(s) / 256), byte(len(s) % 256)}
	for _, x := range s {
		mark := 0
		if x.full {
			mark = len(x.data) + 1
		}
		p = append(p, byte(mark/256), byte(mark%256))
	}
	p = append(p, make([]byte, s.room())...)
	for _, x := range slices.Backward(s) {
		p = append(p, x.data...)
	}
	return p
}

// with is a copy that has something else in a slot, which may be a new one.
func (s sheet) with(at int, x slot) sheet {
	s = slices.Clone(s)
	if at == len(s) {
		s = append(s, slot{})
	}
	s[at] = x
	for len(s) > 0 && !s[len(s)-1].full {
		s = s[:len(s)-1]
	}
	return s
}

// first is the first empty slot, or a new one.
func (s sheet) first() int {
	if at := slices.IndexFunc(s, func(x slot) bool { return !x.full }); at >= 0 {
		return at
	}
	return len(s)
}

// bytes are the pages.
func (m model) bytes() [][]byte {
	var l [][]byte
	for _, s := range m {
		l = append(l, s.bytes())
	}
	return l
}

// with is a copy that has another page, which may be a new one, without the pages that are let go.
func (m model) with(at int, s sheet) model {
	m = slices.Clone(m)
	if at == len(m) {
		m = append(m, nil)
	}
	m[at] = s
	for len(m) > 0 && len(m[len(m)-1]) == 0 {
		m = m[:len(m)-1]
	}
	return m
}

// has asks whether there is data.
func (m model) has(at heap.Rid) bool {
	return at.Page >= 0 && at.Page < len(m) && at.Slot >= 0 && at.Slot < len(m[at.Page]) && m[at.Page][at.Slot].full
}

// put is the model behind a Put.
func (m model) put(data string) (model, heap.Rid, api.Errno) {
	if len(data) > 255 {
		return m, heap.Rid{}, api.ErrLong
	}
	for k := range 64 {
		var s sheet
		if k < len(m) {
			s = m[k]
		}
		at := s.first()
		if then := s.with(at, slot{true, data}); then.room() >= 0 {
			return m.with(k, then), heap.Rid{Page: k, Slot: at}, api.OK
		}
	}
	return m, heap.Rid{}, api.ErrFull
}

// set is the model behind a Set.
func (m model) set(at heap.Rid, data string) (model, heap.Rid, api.Errno) {
	if len(data) > 255 {
		return m, heap.Rid{}, api.ErrLong
	}
	if !m.has(at) {
		return m, heap.Rid{}, api.ErrNone
	}
	if then := m[at.Page].with(at.Slot, slot{true, data}); then.room() >= 0 {
		return m.with(at.Page, then), at, api.OK
	}
	left, _ := m.drop(at)
	if then, to, err := left.put(data); err == api.OK {
		return then, to, api.OK
	}
	return m, heap.Rid{}, api.ErrFull
}

// drop is the model behind a Drop.
func (m model) drop(at heap.Rid) (model, api.Errno) {
	if !m.has(at) {
		return m, api.ErrNone
	}
	return m.with(at.Page, m[at.Page].with(at.Slot, slot{})), api.OK
}

// items are the data, and where they are.
func (m model) items() ([]heap.Rid, []string) {
	var at []heap.Rid
	var data []string
	for k, s := range m {
		for i, x := range s {
			if x.full {
				at = append(at, heap.Rid{Page: k, Slot: i})
				data = append(data, x.data)
			}
		}
	}
	return at, data
}

// String tells how long the data are, page by page.
func (m model) String() string {
	var b strings.Builder
	for _, s := range m {
		b.WriteString("[")
		for _, x := range s {
			if x.full {
				b.WriteString(" " + strings.Repeat("=", len(x.data)/50) + strings.Repeat(".", len(x.data)%50/10))
			} else {
				b.WriteString(" -")
			}
		}
		b.WriteString(" ]")
	}
	return b.String()
}

// filled are so many pages of two data each, without room.
func filled(n int) model {
	var m model
	for k := range n {
		m = append(m, of(long(253), strings.Repeat(string(rune('A'+k%26)), 253)))
	}
	return m
}

// someHeaps are heaps of all kinds: without pages, with empty slots and pages ahead, with data of no bytes, full ones.
func someHeaps() []model {
	return []model{
		nil, {of("")}, {of("abc")}, {of("-", "abc")}, {nil, of("x")}, {nil, nil, nil, of("-", "-", "x")},
		{of("a", "bc", ""), nil, of("-", "d"), nil, nil, of("", "e")},
		{of(long(255), long(251))}, {of(long(255), long(251)), of("", long(200))}, {of(long(200), long(200)), of(long(200))},
		{of(long(253), long(253)), nil, of(long(253), "-", long(251))}, {of(long(100), long(100), "-", long(200))},
		{holes(127, long(254))}, {nil, holes(126, long(255))}, {of(long(255), long(251)), holes(127, long(254))},
		{of(long(255), long(251)), nil, holes(127, long(254))}, {of(long(255), long(240)), holes(127, long(254))},
		{of(""), holes(253, "", "")}, {of(slices.Repeat([]string{""}, 255)...)}, {of(slices.Repeat([]string{"x"}, 170)...), of("yy")},
		{of(long(90), "-", "-", "-", long(180)), of(long(255), long(250))}, {of("-", long(240), "-", "-", long(242))}, {of(long(200), "-", "-", "-", "-", long(250), "-", long(40))},
		filled(1), filled(3), filled(64), append(filled(63), of("x")), append(filled(63), holes(127, long(254))), append(make(model, 63), of("x")), append(filled(62), nil, of(long(253))),
	}
}

// someData is data to be laid, of which the last three are too long.
func someData() []string {
	return []string{"", "x", "\x00", long(49), long(50), long(51), long(100), long(200), long(250), long(252), long(253), long(254), long(255), long(256), long(512), long(1000)}
}

// somePlaces are places that there are, that there are not, and that there can't be.
func somePlaces() []heap.Rid {
	l := []heap.Rid{{Page: most, Slot: most}, {Page: least, Slot: least}, {Page: 1 << 32, Slot: 1 << 32}, {Page: -1 << 32}}
	for _, p := range []int{0, 1, 2, 3, 5, 62, 63, 64, 65, -1, -64, most, least} {
		for _, s := range []int{0, 1, 2, 4, 5, 7, 126, 127, 254, 255, 256, 512, 65536, -1, -256, most, least} {
			l = append(l, heap.Rid{Page: p, Slot: s})
		}
	}
	return l
}
