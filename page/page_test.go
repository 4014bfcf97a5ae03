package page_test

import (
	"bytes"
	"slices"
	"strings"
	"testing"

	"registrar/api"
	"registrar/page"
)

const (
	most  = 1<<63 - 1
	least = -1 << 63
)

// slot is what a slot has, of which pages are made here by the chapter's words.
type slot struct {
	full bool
	data string
}

func (s slot) String() string {
	if !s.full {
		return "-"
	}
	return s.data
}

// of are slots with these data; those of "-" are empty.
func of(data ...string) []slot {
	var l []slot
	for _, s := range data {
		if s == "-" {
			l = append(l, slot{})
		} else {
			l = append(l, slot{true, s})
		}
	}
	return l
}

// long is data of so many bytes, each unlike the next one.
func long(n int) string {
	b := make([]byte, n)
	for i := range b {
		b[i] = byte(i*7 + n)
	}
	return string(b)
}

// roomOf is how many noughts are between.
func roomOf(l []slot) int {
	room := 512 - 2 - 2*len(l)
	for _, s := range l {
		room -= len(s.data)
	}
	return room
}

// pageOf are the bytes of a page of these slots, or nothing, if they have no room in one.
func pageOf(l []slot) []byte {
	if roomOf(l) < 0 {
		return nil
	}
	p := []byte{byte(len(l) / 256), byte(len(l) % 256)}
	for _, s := range l {
		mark := 0
		if s.full {
			mark = len(s.data) + 1
		}
		p = append(p, byte(mark/256), byte(mark%256))
	}
	p = append(p, make([]byte, roomOf(l))...)
	for i := len(l) - 1; i >= 0; i-- {
		p = append(p, l[i].data...)
	}
	return p
}

// read is the slots of which bytes are the page, and whether there are such: those that its marks tell, if these make the same page again.
func read(p []byte) ([]slot, bool) {
	if len(p) != 512 {
		return nil, false
	}
	n, end := int(p[0])*256+int(p[1]), 512
	if n > 255 {
		return nil, false
	}
	var l []slot
	for k := range n {
		mark := int(p[2+2*k])*256 + int(p[3+2*k])
		switch {
		case mark > 256 || mark-1 > end:
			return nil, false
		case mark == 0:
			l = append(l, slot{})
		default:
			l = append(l, slot{true, string(p[end-mark+1 : end])})
			end -= mark - 1
		}
	}
	if n > 0 && !l[n-1].full {
		return nil, false
	}
	return l, bytes.Equal(pageOf(l), p)
}

// trimmed are slots without the empty ones behind the last one that is not.
func trimmed(l []slot) []slot {
	for len(l) > 0 && !l[len(l)-1].full {
		l = l[:len(l)-1]
	}
	return l
}

// has asks whether there is such a slot, and it is not empty.
func has(l []slot, at int) bool {
	return at >= 0 && at < len(l) && l[at].full
}

// afterPut are slots behind a Put.
func afterPut(l []slot, data string) ([]slot, int, api.Errno) {
	if len(data) > 255 {
		return nil, 0, api.ErrLong
	}
	at := slices.IndexFunc(l, func(s slot) bool { return !s.full })
	l = slices.Clone(l)
	if at < 0 {
		at = len(l)
		l = append(l, slot{})
	}
	l[at] = slot{true, data}
	if roomOf(l) < 0 {
		return nil, 0, api.ErrFull
	}
	return l, at, api.OK
}

// afterSet are slots behind a Set.
func afterSet(l []slot, at int, data string) ([]slot, api.Errno) {
	switch {
	case len(data) > 255:
		return nil, api.ErrLong
	case !has(l, at):
		return nil, api.ErrNone
	}
	l = slices.Clone(l)
	l[at] = slot{true, data}
	if roomOf(l) < 0 {
		return nil, api.ErrFull
	}
	return l, api.OK
}

// afterDrop are slots behind a Drop.
func afterDrop(l []slot, at int) ([]slot, api.Errno) {
	if !has(l, at) {
		return nil, api.ErrNone
	}
	l = slices.Clone(l)
	l[at] = slot{}
	return trimmed(l), api.OK
}

// somePages are slots of which there are pages: none, empty ones ahead and between, data of no bytes, of many, of noughts, and full pages.
func somePages() [][]slot {
	return [][]slot{
		nil, of(""), of("abc"), of("-", "abc"), of("-", "-", "-", ""), of("abc", "-", "de"), of("a", "bc", "def", "ghij"),
		of("\x00\x00"), of("\x00\x00", "-", "x\x00"), of(long(255)), of(long(255), "-", long(249)), of("-", long(254), "q", long(246)),
		of(long(255), long(251)), of(long(200), "-", "-", long(200), "-", "z"), of(long(255), long(249), ""),
		of(slices.Repeat([]string{""}, 255)...), of(slices.Repeat([]string{"ab", "-"}, 60)...)[:119], of(append(slices.Repeat([]string{"-"}, 254), "")...),
		of(append(slices.Repeat([]string{"-"}, 127), long(254))...), of(append(slices.Repeat([]string{"-"}, 126), long(255))...),
		of(slices.Repeat([]string{"x"}, 170)...), of(slices.Repeat([]string{long(15)}, 30)...),
	}
}

// someData is data to be laid, of which the last two are too long.
func someData() []string {
	return []string{"", "x", "\x00", "ab", "\x00\x00\x00", long(20), long(100), long(128), long(240), long(246), long(250), long(254), long(255), long(256), long(1000)}
}

// someSlots are numbers of slots that there are, that there are not, and that there can't be.
func someSlots() []int {
	return []int{0, 1, 2, 3, 4, 5, 17, 58, 117, 118, 119, 126, 127, 128, 169, 170, 253, 254, 255, 256, 257, 510, 511, 512, 65535, 65536, 1 << 32, 1<<32 + 1, most, -1, -2, -255, -256, -1 << 32, least, least + 1}
}

// noPages are bytes that are no page.
func noPages() [][]byte {
	full := pageOf(of(long(255), "-", long(249)))
	l := [][]byte{nil, {}, {0}, {0, 0}, {0, 1, 0, 1}, make([]byte, 511), make([]byte, 513), make([]byte, 1024), full[:511], full[1:], append(slices.Clone(full), 0)}
	for _, front := range []string{
		"\x00\x01", "\x00\x01\x00\x00", "\x00\x02\x00\x01\x00\x00", "\x01\x00", "\xff\xff", "\x00\xff", "\x00\x00\x00\x01", "\x00\x00\x00\x00\x01",
		"\x00\x01\x01\x01", "\x00\x01\x02\x00", "\x00\x01\xff\xff", "\x00\x02\x01\x00\x01\x01", "\x00\x02\x01\x00\x01\x00", "\x00\x03\x01\x00\x01\x00\x01\x00",
		"\x00\x01\x00\x01\x00\x01", "\x00\x01\x01\x00\x07",
	} {
		l = append(l, append([]byte(front), make([]byte, 512-len(front))...))
	}
	l = append(l, bytes.Repeat([]byte{255}, 512), bytes.Repeat([]byte{1}, 512))
	gapped := pageOf(of("abc", "de"))
	gapped[506] = 1
	tail := pageOf(of("abc"))
	copy(tail[504:], "abc\x00\x00\x00\x00\x00")
	tail[503] = 9
	return append(l, gapped, tail)
}

// checkPage holds a page and all that it tells against slots.
func checkPage(t *testing.T, p []byte, l []slot) {
	t.Helper()
	if want := pageOf(l); !bytes.Equal(p, want) {
		t.Fatalf("the page of %q is %q, want %q", l, p, want)
	}
	if err := page.Check(p); err != api.OK {
		t.Fatalf("Check of the page of %q is %d", l, err)
	}
	if room := page.Room(p); room != roomOf(l) {
		t.Fatalf("Room of the page of %q is %d, want %d", l, room, roomOf(l))
	}
	var full []int
	for at, s := range l {
		if s.full {
			full = append(full, at)
		}
	}
	if got := page.Slots(p); !slices.Equal(got, full) {
		t.Fatalf("Slots of the page of %q are %v, want %v", l, got, full)
	}
	for at := range len(l) + 1 {
		checkGet(t, p, l, at)
	}
}

// checkGet holds Get of one slot against slots.
func checkGet(t *testing.T, p []byte, l []slot, at int) {
	t.Helper()
	want, err := "", api.ErrNone
	if has(l, at) {
		want, err = l[at].data, api.OK
	}
	if data, e := page.Get(p, at); string(data) != want || e != err {
		t.Fatalf("Get of the page of %q at %d is %q, %d; want %q, %d", l, at, data, e, want, err)
	}
}

// checkPut puts data into the page of slots, and gives the slots then.
func checkPut(t *testing.T, l []slot, data string) []slot {
	t.Helper()
	p := pageOf(l)
	q, at, e := page.Put(p, []byte(data))
	then, want, err := afterPut(l, data)
	if at != want || e != err {
		t.Fatalf("Put into the page of %q of %q is %d, %d; want %d, %d", l, data, at, e, want, err)
	}
	checkThen(t, p, q, l, then, e)
	if e != api.OK {
		return l
	}
	return then
}

// checkSet sets data in the page of slots, and gives the slots then.
func checkSet(t *testing.T, l []slot, at int, data string) []slot {
	t.Helper()
	p := pageOf(l)
	q, e := page.Set(p, at, []byte(data))
	then, err := afterSet(l, at, data)
	if e != err {
		t.Fatalf("Set in the page of %q at %d of %q is %d, want %d", l, at, data, e, err)
	}
	checkThen(t, p, q, l, then, e)
	if e != api.OK {
		return l
	}
	return then
}

// checkDrop drops a slot of the page of slots, and gives the slots then.
func checkDrop(t *testing.T, l []slot, at int) []slot {
	t.Helper()
	p := pageOf(l)
	q, e := page.Drop(p, at)
	then, err := afterDrop(l, at)
	if e != err {
		t.Fatalf("Drop in the page of %q at %d is %d, want %d", l, at, e, err)
	}
	checkThen(t, p, q, l, then, e)
	if e != api.OK {
		return l
	}
	return then
}

// checkThen asks whether the page that was handed in is as it was, and the one that was answered is that of the slots then; nothing, where it was refused.
func checkThen(t *testing.T, p, q []byte, l, then []slot, err api.Errno) {
	t.Helper()
	if !bytes.Equal(p, pageOf(l)) {
		t.Fatalf("the page of %q was changed to %q", l, p)
	}
	if err == api.OK {
		checkPage(t, q, then)
	} else if len(q) != 0 {
		t.Fatalf("refused by %d, the page is %q", err, q)
	}
}

// P6.1: a page without slots, which has room for 510 bytes; each call makes one of its own.
func TestNew(t *testing.T) {
	p := page.New()
	if !bytes.Equal(p, make([]byte, 512)) {
		t.Fatalf("New is %q", p)
	}
	if room := page.Room(p); room != 510 {
		t.Errorf("New has room for %d", room)
	}
	checkPage(t, p, nil)
	p[0] = 1
	checkPage(t, page.New(), nil)
}

// P6.1, P6.2: pages by hand.
func TestByHand(t *testing.T) {
	for _, x := range []struct {
		l         []slot
		ahead     string
		room      int
		behind    string
		fullSlots []int
	}{
		{nil, "\x00\x00", 510, "", nil},
		{of("abc"), "\x00\x01\x00\x04", 505, "abc", []int{0}},
		{of("abc", "de"), "\x00\x02\x00\x04\x00\x03", 501, "deabc", []int{0, 1}},
		{of("-", "", "f"), "\x00\x03\x00\x00\x00\x01\x00\x02", 503, "f", []int{1, 2}},
		{of("a", "-", "bc"), "\x00\x03\x00\x02\x00\x00\x00\x03", 501, "bca", []int{0, 2}},
		{of(strings.Repeat("x", 255)), "\x00\x01\x01\x00", 253, strings.Repeat("x", 255), []int{0}},
		{of(strings.Repeat("x", 255), strings.Repeat("y", 251)), "\x00\x02\x01\x00\x00\xfc", 0, strings.Repeat("y", 251) + strings.Repeat("x", 255), []int{0, 1}},
	} {
		p := []byte(x.ahead + strings.Repeat("\x00", x.room) + x.behind)
		checkPage(t, p, x.l)
		if room := page.Room(p); room != x.room {
			t.Errorf("Room of %q is %d, want %d", p, room, x.room)
		}
		if l := page.Slots(p); !slices.Equal(l, x.fullSlots) {
			t.Errorf("Slots of %q are %v, want %v", p, l, x.fullSlots)
		}
	}
}

// P6.1, P6.2: what pages tell.
func TestPages(t *testing.T) {
	for _, l := range somePages() {
		checkPage(t, pageOf(l), l)
		for _, at := range someSlots() {
			checkGet(t, pageOf(l), l, at)
		}
	}
}

// checkRefused asks all calls of bytes that are no page, with other arguments right and wrong.
func checkRefused(t *testing.T, p []byte) {
	t.Helper()
	if err := page.Check(p); err != api.ErrForm {
		t.Fatalf("Check(%q) is %d", p, err)
	}
	if room := page.Room(p); room != 0 {
		t.Fatalf("Room(%q) is %d", p, room)
	}
	if l := page.Slots(p); len(l) != 0 {
		t.Fatalf("Slots(%q) are %v", p, l)
	}
	for _, at := range []int{0, 1, 2, 255, 256, -1, most, least} {
		if data, err := page.Get(p, at); len(data) != 0 || err != api.ErrForm {
			t.Fatalf("Get(%q, %d) is %q, %d", p, at, data, err)
		}
		if q, err := page.Drop(p, at); len(q) != 0 || err != api.ErrForm {
			t.Fatalf("Drop(%q, %d) is %q, %d", p, at, q, err)
		}
		for _, n := range []int{0, 1, 255, 256, 600} {
			if q, err := page.Set(p, at, make([]byte, n)); len(q) != 0 || err != api.ErrForm {
				t.Fatalf("Set(%q, %d) of %d bytes is %q, %d", p, at, n, q, err)
			}
		}
	}
	for _, n := range []int{0, 1, 255, 256, 600} {
		if q, at, err := page.Put(p, make([]byte, n)); len(q) != 0 || at != 0 || err != api.ErrForm {
			t.Fatalf("Put(%q) of %d bytes is %q, %d, %d", p, n, q, at, err)
		}
	}
}

// P6.1: all calls refuse what is no page, ahead of all else.
func TestNoPage(t *testing.T) {
	for _, p := range noPages() {
		checkRefused(t, p)
	}
	for n := range 1100 {
		if n != 512 {
			checkRefused(t, make([]byte, n))
		}
	}
}

// checkEither asks Check of bytes that may be a page or none.
func checkEither(t *testing.T, p []byte) {
	t.Helper()
	l, right := read(p)
	switch err := page.Check(p); {
	case right && err != api.OK || !right && err != api.ErrForm:
		t.Fatalf("Check(%q) is %d, but it is a page: %t", p, err, right)
	case right:
		if room := page.Room(p); room != roomOf(l) {
			t.Fatalf("Room(%q) is %d, want %d", p, room, roomOf(l))
		}
	}
}

// P6.1: pages of which one byte is another one.
func TestCheckSpoilt(t *testing.T) {
	for _, l := range somePages() {
		p := pageOf(l)
		for at := range p {
			was := p[at]
			for _, c := range []byte{0, 1, 2, 3, 127, 128, 254, 255, was + 1, was - 1, was ^ 128} {
				p[at] = c
				checkEither(t, p)
			}
			p[at] = was
		}
	}
}

// P6.1: all counts, and all marks of one slot and of one behind others.
func TestCheckNumbers(t *testing.T) {
	for n := range 1 << 16 {
		hi, lo := byte(n/256), byte(n%256)
		for _, front := range [][]byte{{hi, lo}, {hi, lo, 0, 1, 0, 1}, {0, 1, hi, lo}, {0, 2, 1, 0, hi, lo}, {0, 2, hi, lo, 0, 1}, {0, 3, 0, 0, hi, lo, 0, 5}} {
			checkEither(t, append(front, make([]byte, 512-len(front))...))
		}
	}
	for n := range 512 {
		p := make([]byte, 512)
		p[0], p[1] = byte(n/256), byte(n%256)
		for k := range min(n, 255) {
			p[3+2*k] = 1
		}
		checkEither(t, p)
	}
}

// P6.2, P6.3, P6.4: each page, with each data laid, set and dropped everywhere.
func TestChanges(t *testing.T) {
	for _, l := range somePages() {
		for _, data := range someData() {
			checkPut(t, l, data)
			for _, at := range someSlots() {
				checkSet(t, l, at, data)
			}
		}
		for _, at := range someSlots() {
			checkDrop(t, l, at)
		}
	}
}

// P6.2: the room that is just enough, and one byte less; a new slot takes two bytes, an empty one none.
func TestPutRoom(t *testing.T) {
	for room := range 300 {
		left := 510 - room - 4
		full := of(long(left/2), long(left-left/2))
		holed := of(long((left-2)/2), "-", long(left-2-(left-2)/2))
		for _, n := range []int{room - 3, room - 2, room - 1, room, room + 1} {
			if n < 0 || n > 255 {
				continue
			}
			wantNew, wantOld := api.OK, api.OK
			if n+2 > room {
				wantNew = api.ErrFull
			}
			if n > room {
				wantOld = api.ErrFull
			}
			if _, _, err := page.Put(pageOf(full), make([]byte, n)); err != wantNew {
				t.Errorf("Put of %d bytes into room for %d is %d", n, room, err)
			}
			if _, _, err := page.Put(pageOf(holed), make([]byte, n)); err != wantOld {
				t.Errorf("Put of %d bytes into an empty slot and room for %d is %d", n, room, err)
			}
			checkPut(t, full, long(n))
			checkPut(t, holed, long(n))
		}
	}
}

// P6.2: data goes into the first empty slot, and into a new one where there is none, up to 255 slots.
func TestPutSlots(t *testing.T) {
	var l []slot
	for range 256 {
		l = checkPut(t, l, "")
	}
	if len(l) != 255 {
		t.Fatalf("there are %d slots", len(l))
	}
	for _, at := range []int{200, 3, 100} {
		l = checkDrop(t, l, at)
	}
	for _, want := range []int{3, 100, 200} {
		_, at, err := page.Put(pageOf(l), nil)
		if at != want || err != api.OK {
			t.Fatalf("Put is laid at %d, %d; want %d", at, err, want)
		}
		l = checkPut(t, l, "")
	}
	checkPut(t, l, "")
}

// P6.3: ErrLong ahead of ErrNone, and that ahead of ErrFull; what has no more bytes than it had always has room.
func TestSetErrors(t *testing.T) {
	p := pageOf(of(long(255), "-", long(247)))
	for _, x := range []struct {
		at, n int
		want  api.Errno
	}{
		{0, 256, api.ErrLong}, {1, 256, api.ErrLong}, {-1, 256, api.ErrLong}, {3, 300, api.ErrLong},
		{1, 255, api.ErrNone}, {3, 255, api.ErrNone}, {-1, 255, api.ErrNone}, {1, 0, api.ErrNone},
		{2, 255, api.ErrFull}, {2, 251, api.ErrFull}, {2, 250, api.ErrFull}, {2, 249, api.OK}, {2, 247, api.OK}, {0, 255, api.OK}, {0, 0, api.OK},
	} {
		if _, err := page.Set(p, x.at, make([]byte, x.n)); err != x.want {
			t.Errorf("Set at %d of %d bytes is %d, want %d", x.at, x.n, err, x.want)
		}
	}
}

// P6.3: data of each size becomes data of each other one, between two others.
func TestSetSizes(t *testing.T) {
	sizes := []int{0, 1, 2, 3, 100, 126, 127, 128, 129, 200, 240, 241, 242, 243, 244, 245, 253, 254, 255}
	for _, was := range sizes {
		for _, is := range sizes {
			for at := range 4 {
				l := of(long(3), long(120), long(131), long(1))
				l[at].data = long(was)
				if roomOf(l) >= 0 {
					checkSet(t, l, at, long(is))
				}
			}
		}
	}
}

// P6.3: the empty slots behind the last one that is not are gone, those ahead of it stay; a page of which all is dropped is a new one.
func TestDropByHand(t *testing.T) {
	for _, x := range []struct {
		l    []slot
		at   int
		then []slot
	}{
		{of("a"), 0, nil}, {of("a", "b"), 0, of("-", "b")}, {of("a", "b"), 1, of("a")}, {of("-", "b"), 1, nil}, {of("-", "-", "-", "d"), 3, nil},
		{of("a", "-", "c"), 2, of("a")}, {of("a", "-", "-", "-", "c"), 4, of("a")}, {of("a", "-", "c"), 0, of("-", "-", "c")},
		{of("", "", ""), 1, of("", "-", "")}, {of("", "-", ""), 2, of("")}, {of(long(255), long(251)), 0, of("-", long(251))},
	} {
		p, err := page.Drop(pageOf(x.l), x.at)
		if !bytes.Equal(p, pageOf(x.then)) || err != api.OK {
			t.Errorf("Drop in the page of %q at %d is %q, %d; want %q", x.l, x.at, p, err, pageOf(x.then))
		}
	}
	l := of("a", "bc", "-", "", long(255))
	for _, at := range []int{1, 4, 0, 3} {
		l = checkDrop(t, l, at)
	}
	if len(l) != 0 {
		t.Errorf("all is dropped but %q", l)
	}
}

// walk makes all changes of a few kinds, so many behind one another.
func walk(t *testing.T, l []slot, n int) {
	if n == 0 {
		return
	}
	for _, data := range []string{"", "x", "yz\x00"} {
		walk(t, checkPut(t, l, data), n-1)
	}
	for at := range len(l) {
		for _, data := range []string{"", "uvw"} {
			walk(t, checkSet(t, l, at, data), n-1)
		}
		walk(t, checkDrop(t, l, at), n-1)
	}
}

// P6.4: all short ways from a new page, and from pages that are nearly full.
func TestShortWays(t *testing.T) {
	walk(t, nil, 5)
	walk(t, of(long(255), "-", long(244)), 3)
	walk(t, of("-", "-", long(247), long(253)), 3)
}

// P6.4: long ways, in which slots fill and empty again.
func TestLongWays(t *testing.T) {
	seed := uint32(1)
	next := func(n int) int {
		seed = seed*1664525 + 1013904223
		return int(seed>>8) % n
	}
	for _, size := range []int{2, 10, 60, 260} {
		var l []slot
		for range 4000 {
			data := long(next(size))
			switch next(5) {
			case 0, 1:
				l = checkPut(t, l, data)
			case 2:
				l = checkSet(t, l, next(len(l)+1), data)
			default:
				if next(3) > 0 || roomOf(l) < size {
					l = checkDrop(t, l, next(len(l)+1))
				}
			}
		}
	}
}

// withSpare is a copy of bytes that has spare room, which is all sevens.
func withSpare(b []byte) []byte {
	spare := bytes.Repeat([]byte{7}, len(b)+700)
	copy(spare, b)
	return slices.Clip(spare)[:len(b)]
}

// checkKept asks whether bytes, and their spare room, are as they were.
func checkKept(t *testing.T, b, was []byte) {
	t.Helper()
	if whole := b[:cap(b)]; !bytes.Equal(whole, withSpare(was)[:cap(b)]) {
		t.Fatalf("%q was changed to %q", was, whole)
	}
}

// spoil makes other bytes of all, the spare room too; and, done again, the same bytes as before.
func spoil(b []byte) {
	b = b[:cap(b)]
	for i := range b {
		b[i] ^= 85
	}
}

// checkApart asks whether lists share no bytes with one another.
func checkApart(t *testing.T, lists ...[]byte) {
	t.Helper()
	for i, one := range lists {
		for j, other := range lists {
			was := slices.Clone(other)
			spoil(one)
			if i != j && !bytes.Equal(other, was) {
				t.Fatalf("%q and %q share bytes", one, other)
			}
			spoil(one)
		}
	}
}

// P6.4: what is handed in stays, its spare room too, and shares nothing with what is answered.
func TestOwn(t *testing.T) {
	for _, l := range somePages() {
		for _, data := range someData() {
			for at := range 4 {
				p, d := withSpare(pageOf(l)), withSpare([]byte(data))
				a := answersOf(p, d, at)
				again := answersOf(p, d, at)
				checkKept(t, p, pageOf(l))
				checkKept(t, d, []byte(data))
				checkApart(t, p, d, a.got, a.put, a.set, a.dropped, again.got, again.put, again.set, again.dropped)
				spoil(p)
				spoil(d)
				checkAnswers(t, l, at, data, a)
			}
		}
	}
}

// answers are what the calls that answer bytes answered.
type answers struct {
	got, put, set, dropped             []byte
	gotErr, putErr, setErr, droppedErr api.Errno
}

// answersOf are the answers to these arguments.
func answersOf(p, d []byte, at int) answers {
	var a answers
	page.Check(p)
	page.Room(p)
	page.Slots(p)
	a.got, a.gotErr = page.Get(p, at)
	a.put, _, a.putErr = page.Put(p, d)
	a.set, a.setErr = page.Set(p, at, d)
	a.dropped, a.droppedErr = page.Drop(p, at)
	return a
}

// checkAnswers asks whether answers are as they should be, now that what was handed in is spoilt.
func checkAnswers(t *testing.T, l []slot, at int, data string, a answers) {
	t.Helper()
	put, _, putErr := afterPut(l, data)
	set, setErr := afterSet(l, at, data)
	dropped, droppedErr := afterDrop(l, at)
	got, gotErr := "", api.ErrNone
	if has(l, at) {
		got, gotErr = l[at].data, api.OK
	}
	for _, x := range []struct {
		call         string
		b            []byte
		want         string
		err, wantErr api.Errno
	}{
		{"Get", a.got, got, a.gotErr, gotErr},
		{"Put", a.put, string(pageOf(put)), a.putErr, putErr},
		{"Set", a.set, string(pageOf(set)), a.setErr, setErr},
		{"Drop", a.dropped, string(pageOf(dropped)), a.droppedErr, droppedErr},
	} {
		if x.wantErr != api.OK {
			x.want = ""
		}
		if string(x.b) != x.want || x.err != x.wantErr {
			t.Fatalf("%s of the page of %q at %d of %q is %q, %d when these are gone", x.call, l, at, data, x.b, x.err)
		}
	}
}

// P6.4: data that is a part of the page itself.
func TestDataOfPage(t *testing.T) {
	l := of("abcdef", "-", "ghi")
	p := pageOf(l)
	for from := range len(p) {
		d := p[from:min(from+250, len(p))]
		data := string(d)
		put, _, err := page.Put(p, d)
		then, _, _ := afterPut(l, data)
		if !bytes.Equal(put, pageOf(then)) || err != api.OK {
			t.Fatalf("Put of the page from %d on is %q, %d", from, put, err)
		}
		set, err := page.Set(p, 0, d)
		then, _ = afterSet(l, 0, data)
		if !bytes.Equal(set, pageOf(then)) || err != api.OK {
			t.Fatalf("Set of the page from %d on is %q, %d", from, set, err)
		}
	}
}
