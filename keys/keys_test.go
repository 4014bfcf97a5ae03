package keys_test

import (
	"bytes"
	"math/big"
	"slices"
	"strings"
	"testing"

	"registrar/api"
	"registrar/keys"
	"registrar/value"
)

const (
	most  = 1<<63 - 1
	least = -1 << 63
)

func number(n int) api.Value { return api.Value{Kind: api.Int, N: n} }

func bit(n int) api.Value { return api.Value{Kind: api.Bool, N: n} }

func text(s string) api.Value { return api.Value{Kind: api.Text, S: s} }

// rights are right values, as they stand in the order.
func rights() []api.Value {
	return []api.Value{
		{},
		number(least), number(least + 1), number(-1 << 32), number(-257), number(-256), number(-255), number(-1), number(0),
		number(1), number(127), number(128), number(255), number(256), number(1 << 32), number(most - 1), number(most),
		bit(0), bit(1),
		text(""), text(" "), text("  "), text(" ~"), text("'"), text("0"), text("10"), text("9"), text("Z"),
		text("a"), text("a "), text("a b"), text("aa"), text("ab"), text("b"),
		text(strings.Repeat("c", 31)), text(strings.Repeat("c", 32)), text(strings.Repeat("~", 32)),
	}
}

// wrongs are values that are not right.
func wrongs() []api.Value {
	return []api.Value{
		{N: 1}, {N: -1}, {S: "a"}, {Kind: api.Int, N: 1, S: "a"},
		bit(2), bit(-1), bit(256), bit(257), bit(most), bit(least), {Kind: api.Bool, N: 1, S: "a"},
		{Kind: api.Text, N: 1}, {Kind: api.Text, N: 1, S: "a"}, text(strings.Repeat("a", 33)), text(strings.Repeat("a", 1000)),
		text("\x00"), text("a\x00b"), text("\n"), text("\x1f"), text("\x7f"), text("\x80"), text("a\xff"), text("é"),
		{Kind: 4}, {Kind: 5, N: 1, S: "a"}, {Kind: -1}, {Kind: 1 << 32}, {Kind: 1<<32 + 1}, {Kind: most}, {Kind: least},
	}
}

// some are a few right values of each kind, for lists of several.
func some() []api.Value {
	return []api.Value{{}, number(-1), number(0), number(256), bit(0), bit(1), text(""), text("a"), text("a "), text("b")}
}

// lists calls visit with each list of at most n of these values.
func lists(n int, of []api.Value, visit func(l []api.Value)) {
	var grow func(l []api.Value)
	grow = func(l []api.Value) {
		visit(slices.Clone(l))
		if len(l) < n {
			for _, v := range of {
				grow(append(slices.Clone(l), v))
			}
		}
	}
	grow(nil)
}

// each calls visit with each string of at most n of these bytes.
func each(n int, of []byte, visit func(b []byte)) {
	var grow func(b []byte)
	grow = func(b []byte) {
		visit(slices.Clone(b))
		if len(b) < n {
			for _, c := range of {
				grow(append(slices.Clone(b), c))
			}
		}
	}
	grow(nil)
}

// bytesOf are the bytes of right values, by big numbers.
func bytesOf(l []api.Value) []byte {
	var b []byte
	for _, v := range l {
		b = append(b, byte(v.Kind+1))
		switch v.Kind {
		case api.Int:
			n := new(big.Int).Lsh(big.NewInt(1), 63)
			b = append(b, n.Add(n, big.NewInt(int64(v.N))).FillBytes(make([]byte, 8))...)
		case api.Bool:
			b = append(b, byte(v.N))
		case api.Text:
			b = append(b, v.S+"\x00"...)
		}
	}
	return b
}

func mustPut(t *testing.T, l []api.Value) []byte {
	t.Helper()
	b, err := keys.Put(l)
	if err != api.OK {
		t.Fatalf("Put(%v): %d", l, err)
	}
	return b
}

// P4.1: bytes by hand.
func TestPutByHand(t *testing.T) {
	for _, x := range []struct {
		l    []api.Value
		want string
	}{
		{nil, ""},
		{[]api.Value{}, ""},
		{[]api.Value{{}}, "\x01"},
		{[]api.Value{number(0)}, "\x02\x80\x00\x00\x00\x00\x00\x00\x00"},
		{[]api.Value{number(1)}, "\x02\x80\x00\x00\x00\x00\x00\x00\x01"},
		{[]api.Value{number(-1)}, "\x02\x7f\xff\xff\xff\xff\xff\xff\xff"},
		{[]api.Value{number(least)}, "\x02\x00\x00\x00\x00\x00\x00\x00\x00"},
		{[]api.Value{number(most)}, "\x02\xff\xff\xff\xff\xff\xff\xff\xff"},
		{[]api.Value{number(0x0102030405060708)}, "\x02\x81\x02\x03\x04\x05\x06\x07\x08"},
		{[]api.Value{bit(0)}, "\x03\x00"},
		{[]api.Value{bit(1)}, "\x03\x01"},
		{[]api.Value{text("")}, "\x04\x00"},
		{[]api.Value{text("a'~ ")}, "\x04a'~ \x00"},
		{[]api.Value{text(strings.Repeat("z", 32))}, "\x04" + strings.Repeat("z", 32) + "\x00"},
		{[]api.Value{bit(1), {}, text("x"), {}, number(258), text("")}, "\x03\x01\x01\x04x\x00\x01\x02\x80\x00\x00\x00\x00\x00\x01\x02\x04\x00"},
		{make([]api.Value, 6), "\x01\x01\x01\x01\x01\x01"},
	} {
		if b, err := keys.Put(x.l); string(b) != x.want || err != api.OK {
			t.Errorf("Put(%v) is %q, %d; want %q", x.l, b, err, x.want)
		}
	}
}

// P4.1: bytes of single values and of lists, held against bytes that are made by big numbers.
func TestPut(t *testing.T) {
	visit := func(l []api.Value) {
		if b, want := mustPut(t, l), bytesOf(l); !bytes.Equal(b, want) {
			t.Fatalf("Put(%v) is %q, want %q", l, b, want)
		}
	}
	lists(2, rights(), visit)
	lists(4, some(), visit)
	for i := range 64 {
		for d := -1; d <= 1; d++ {
			visit([]api.Value{number(1<<i + d), number(-1<<i + d)})
		}
	}
	for c := byte(32); c <= 126; c++ {
		visit([]api.Value{text(strings.Repeat(string(rune(c)), int(c)%33))})
	}
}

// P4.1: a value that is not right is refused wherever it stands; too many values are, ahead of that.
func TestPutRefuses(t *testing.T) {
	for _, wrong := range wrongs() {
		for n := 1; n <= 12; n++ {
			for at := range n {
				l := slices.Repeat([]api.Value{number(7)}, n)
				l[at] = wrong
				want := api.ErrArg
				if n > 6 {
					want = api.ErrLong
				}
				if b, err := keys.Put(l); len(b) != 0 || err != want {
					t.Errorf("Put(%v) is %q, %d; want %d", l, b, err, want)
				}
			}
		}
	}
	for n := range 20 {
		want := api.OK
		if n > 6 {
			want = api.ErrLong
		}
		l := slices.Repeat([]api.Value{bit(1)}, n)
		if b, err := keys.Put(l); err != want || err != api.OK && len(b) != 0 {
			t.Errorf("Put of %d values is %q, %d; want %d", n, b, err, want)
		}
	}
}

// P4.1: the list that is handed in stays, its spare room too, and the bytes are new each time.
func TestPutLeavesAlone(t *testing.T) {
	room := append([]api.Value{number(1), text("a"), bit(1), {}}, rights()[:4]...)
	kept := slices.Clone(room)
	a := mustPut(t, room[:3])
	b := mustPut(t, room[:3])
	clear(a[:cap(a)])
	if !slices.Equal(room, kept) || !bytes.Equal(b, bytesOf(kept[:3])) {
		t.Errorf("Put has changed %v to %v, or its bytes are shared: %q", kept, room, b)
	}
}

// model reads byte by byte, by the words: what is in it is what has been read so far.
type model struct {
	l    []api.Value
	kind byte // the first byte of the value that is under way, or 0
	part []byte
}

// take is the error at the next byte.
func (m *model) take(c byte) api.Errno {
	switch m.kind {
	case 0:
		return m.begin(c)
	case 2:
		m.part = append(m.part, c)
		if len(m.part) == 8 {
			n := new(big.Int).SetBytes(m.part)
			n.Sub(n, new(big.Int).Lsh(big.NewInt(1), 63))
			m.end(number(int(n.Int64())))
		}
	case 3:
		if c > 1 {
			return api.ErrForm
		}
		m.end(bit(int(c)))
	case 4:
		switch {
		case c == 0:
			m.end(text(string(m.part)))
		case c < ' ' || c > '~':
			return api.ErrForm
		case len(m.part) == 32:
			return api.ErrLong
		default:
			m.part = append(m.part, c)
		}
	}
	return api.OK
}

func (m *model) begin(c byte) api.Errno {
	switch {
	case len(m.l) == 6:
		return api.ErrLong
	case c == 1:
		m.end(api.Value{})
	case c == 2 || c == 3 || c == 4:
		m.kind = c
	default:
		return api.ErrForm
	}
	return api.OK
}

func (m *model) end(v api.Value) {
	m.l, m.kind, m.part = append(m.l, v), 0, nil
}

// valuesOf is what Get must answer.
func valuesOf(b []byte) ([]api.Value, api.Errno) {
	var m model
	for _, c := range b {
		if err := m.take(c); err != api.OK {
			return nil, err
		}
	}
	if m.kind != 0 {
		return nil, api.ErrEnd
	}
	return m.l, api.OK
}

// checkGet holds Get against the model, and Put of what it answers against the bytes.
func checkGet(t *testing.T, b []byte) {
	t.Helper()
	kept := slices.Clone(b)
	want, wantErr := valuesOf(b)
	l, err := keys.Get(b)
	if !slices.Equal(l, want) || err != wantErr {
		t.Fatalf("Get(%q) is %v, %d; want %v, %d", b, l, err, want, wantErr)
	}
	if !bytes.Equal(b, kept) {
		t.Fatalf("Get has changed %q to %q", kept, b)
	}
	if err == api.OK && !bytes.Equal(mustPut(t, l), b) {
		t.Fatalf("Put of Get(%q) is %q", b, mustPut(t, l))
	}
}

// P4.2: Get by hand.
func TestGetByHand(t *testing.T) {
	a31, a32, a33 := strings.Repeat("a", 31), strings.Repeat("a", 32), strings.Repeat("a", 33)
	for _, x := range []struct {
		b    string
		want []api.Value
		err  api.Errno
	}{
		{"", nil, api.OK},
		{"\x01", []api.Value{{}}, api.OK},
		{"\x02\x80\x00\x00\x00\x00\x00\x00\x00", []api.Value{number(0)}, api.OK},
		{"\x02\x00\x00\x00\x00\x00\x00\x00\x00", []api.Value{number(least)}, api.OK},
		{"\x02\xff\xff\xff\xff\xff\xff\xff\xff", []api.Value{number(most)}, api.OK},
		{"\x02\x81\x02\x03\x04\x05\x06\x07\x08", []api.Value{number(0x0102030405060708)}, api.OK},
		{"\x03\x00\x03\x01", []api.Value{bit(0), bit(1)}, api.OK},
		{"\x04\x00", []api.Value{text("")}, api.OK},
		{"\x04 ~\x00", []api.Value{text(" ~")}, api.OK},
		{"\x04" + a32 + "\x00\x01", []api.Value{text(a32), {}}, api.OK},
		{"\x01\x01\x01\x01\x01\x01", make([]api.Value, 6), api.OK},

		// Behind six values each byte is one too many, whatever it is.
		{"\x01\x01\x01\x01\x01\x01\x01", nil, api.ErrLong},
		{"\x01\x01\x01\x01\x01\x01\x00", nil, api.ErrLong},
		{"\x01\x01\x01\x01\x01\x01\xff", nil, api.ErrLong},
		{"\x01\x01\x01\x01\x01\x01\x02", nil, api.ErrLong},
		{"\x01\x01\x01\x01\x01\x03\x00\x03\x02", nil, api.ErrLong},
		{"\x01\x01\x01\x01\x01\x03\x02\x01", nil, api.ErrForm},
		{"\x01\x01\x01\x01\x01\x05\x01", nil, api.ErrForm},
		{"\x01\x01\x01\x01\x01\x03", nil, api.ErrEnd},

		{"\x00", nil, api.ErrForm}, {"\x05", nil, api.ErrForm}, {"\xff", nil, api.ErrForm}, {"\x01\x00", nil, api.ErrForm},
		{"\x03\x02", nil, api.ErrForm}, {"\x03\xff", nil, api.ErrForm}, {"\x03\x01\x01\x09\x02", nil, api.ErrForm},
		{"\x04\x01", nil, api.ErrForm}, {"\x04\x1f\x00", nil, api.ErrForm}, {"\x04\x7f\x00", nil, api.ErrForm}, {"\x04a\x80", nil, api.ErrForm},

		// A Text's byte behind 32 others is one too many; one of another form is that first.
		{"\x04" + a33, nil, api.ErrLong},
		{"\x04" + a33 + "\x00", nil, api.ErrLong},
		{"\x04" + a33 + "\xff", nil, api.ErrLong},
		{"\x04" + a32 + "\x01", nil, api.ErrForm},
		{"\x04" + a32 + "\xff\x00", nil, api.ErrForm},
		{"\x04" + a31 + "\x7f" + a32, nil, api.ErrForm},

		{"\x02", nil, api.ErrEnd}, {"\x02\xff\xff\xff\xff\xff\xff\xff", nil, api.ErrEnd},
		{"\x03", nil, api.ErrEnd}, {"\x01\x03", nil, api.ErrEnd},
		{"\x04", nil, api.ErrEnd}, {"\x04a", nil, api.ErrEnd}, {"\x04" + a32, nil, api.ErrEnd}, {"\x04\x00\x04", nil, api.ErrEnd},
	} {
		if l, err := keys.Get([]byte(x.b)); !slices.Equal(l, x.want) || err != x.err {
			t.Errorf("Get(%q) is %v, %d; want %v, %d", x.b, l, err, x.want, x.err)
		}
	}
}

// P4.2: all short strings of the bytes at which something turns.
func TestGetAll(t *testing.T) {
	each(6, []byte{0, 1, 2, 3, 4, 5, 'a', 0xff}, func(b []byte) { checkGet(t, b) })
	each(3, []byte{0, 1, 4, 31, 32, 126, 127, 128}, func(b []byte) {
		for n := 28; n <= 34; n++ {
			checkGet(t, slices.Concat([]byte{4}, bytes.Repeat([]byte{'a'}, n), b))
		}
	})
	each(4, []byte{0, 1, 2, 3, 4, 'a'}, func(b []byte) {
		for n := 4; n <= 7; n++ {
			checkGet(t, append(bytes.Repeat([]byte{3, 1}, n), b...))
		}
	})
}

// longs are lists of which each byte tells something.
func longs() [][]api.Value {
	return [][]api.Value{
		{text(strings.Repeat("k", 32)), number(-2), bit(1), {}, text(""), number(most)},
		{number(0x0102030405060708), number(least), text("it's"), {}, bit(0)},
		{{}, {}, {}, {}, {}, text(strings.Repeat("~", 31))},
	}
}

// P4.2: bytes of lists, cut short everywhere, and with another byte, one more and one less everywhere.
func TestGetSpoilt(t *testing.T) {
	for _, l := range longs() {
		b := bytesOf(l)
		for at := range b {
			checkGet(t, b[:at])
			checkGet(t, slices.Delete(slices.Clone(b), at, at+1))
			for c := range 256 {
				spoilt := slices.Clone(b)
				spoilt[at] = byte(c)
				checkGet(t, spoilt)
				checkGet(t, slices.Insert(slices.Clone(b), at, byte(c)))
			}
		}
		for c := range 256 {
			checkGet(t, append(slices.Clone(b), byte(c)))
		}
	}
}

// P4.2: the values share nothing with the bytes, nor with those of another call.
func TestGetIsNew(t *testing.T) {
	for _, l := range longs() {
		b := bytesOf(l)
		one, _ := keys.Get(b)
		other, _ := keys.Get(b)
		clear(b)
		clear(one[:cap(one)])
		if !slices.Equal(other, l) {
			t.Errorf("Get of the bytes of %v is %v when they are gone", l, other)
		}
	}
}

// P4.3: Next by hand.
func TestNextByHand(t *testing.T) {
	for _, x := range []struct{ b, want string }{
		{"", ""}, {"\xff", ""}, {"\xff\xff\xff", ""},
		{"\x00", "\x01"}, {"\x7f", "\x80"}, {"\xfe", "\xff"}, {"a", "b"},
		{"a\xff", "b"}, {"a\xff\xff", "b"}, {"a\xfe", "a\xff"}, {"a\x00", "a\x01"}, {"\x00\xff", "\x01"},
		{"\xfe\xff", "\xff"}, {"\xff\xfe", "\xff\xff"}, {"\xff\x00\xff", "\xff\x01"}, {"\xff\xffa", "\xff\xffb"},
	} {
		if next := keys.Next([]byte(x.b)); string(next) != x.want {
			t.Errorf("Next(%q) is %q, want %q", x.b, next, x.want)
		}
	}
	if next := keys.Next(nil); len(next) != 0 {
		t.Errorf("Next of nothing is %q", next)
	}
	for c := range 255 {
		if next := keys.Next([]byte{9, byte(c)}); !bytes.Equal(next, []byte{9, byte(c + 1)}) {
			t.Errorf("Next of 9, %d is %v", c, next)
		}
	}
}

// P4.3: Next is the least of all short strings that stand above each one that begins with b.
func TestNextIsLeast(t *testing.T) {
	var all [][]byte
	each(4, []byte{0, 1, 2, 253, 254, 255}, func(b []byte) { all = append(all, b) })
	slices.SortFunc(all, bytes.Compare)
	// Of b only bytes whose next one is among all, so that the least is among them.
	each(3, []byte{0, 1, 253, 254, 255}, func(b []byte) {
		var want []byte
		for i := len(all) - 1; i >= 0 && !bytes.HasPrefix(all[i], b); i-- {
			want = all[i]
		}
		if next := keys.Next(b); !bytes.Equal(next, want) {
			t.Fatalf("Next(%q) is %q, want %q", b, next, want)
		}
	})
}

// P4.3: the bytes that are handed in stay, their spare room too, and Next is new.
func TestNextLeavesAlone(t *testing.T) {
	for _, s := range []string{"abc", "ab\xff", "\xff\xff\xff", "\x00\xff\xff", "a\xfe\xff"} {
		room := []byte(s + "spare")
		next := keys.Next(room[:3])
		if string(room) != s+"spare" {
			t.Errorf("Next has changed %q to %q", s+"spare", room)
		}
		clear(next[:cap(next)])
		if string(room) != s+"spare" {
			t.Errorf("Next of %q is not new", s)
		}
	}
}

// P4.3: Begins.
func TestBegins(t *testing.T) {
	for _, x := range []struct {
		b, front string
		want     bool
	}{
		{"", "", true}, {"a", "", true}, {"", "a", false}, {"a", "a", true}, {"ab", "a", true}, {"a", "ab", false},
		{"ab", "b", false}, {"ba", "b", true}, {"\x00", "\x00", true}, {"\x00", "\x00\x00", false}, {"abc", "abd", false},
		{"\xff\xfe", "\xff", true}, {"\xff", "\xfe", false}, {"abcd", "abc", true}, {"abc", "bc", false},
	} {
		if begins := keys.Begins([]byte(x.b), []byte(x.front)); begins != x.want {
			t.Errorf("that %q begins with %q is %t", x.b, x.front, begins)
		}
	}
	for _, x := range [][2][]byte{{nil, nil}, {nil, {}}, {{}, nil}, {{1}, nil}} {
		if !keys.Begins(x[0], x[1]) {
			t.Errorf("%v does not begin with %v", x[0], x[1])
		}
	}
	each(4, []byte{0, 1, 255}, func(b []byte) {
		each(3, []byte{0, 1, 255}, func(front []byte) {
			want := len(front) <= len(b) && string(b[:min(len(front), len(b))]) == string(front)
			if begins := keys.Begins(b, front); begins != want {
				t.Fatalf("that %q begins with %q is %t", b, front, begins)
			}
		})
	})
}

// P4.3: what begins so stands from there on, and ahead of Next; all else does not.
func TestNextAndBegins(t *testing.T) {
	each(3, []byte{0, 1, 254, 255}, func(front []byte) {
		next := keys.Next(front)
		each(4, []byte{0, 1, 254, 255}, func(b []byte) {
			within := bytes.Compare(b, front) >= 0 && (len(next) == 0 || bytes.Compare(b, next) < 0)
			if within != keys.Begins(b, front) {
				t.Fatalf("%q stands from %q to %q: %t; it begins so: %t", b, front, next, within, !within)
			}
		})
	})
}

// P4.4: Get of Put are the values.
func TestGetOfPut(t *testing.T) {
	visit := func(l []api.Value) {
		if got, err := keys.Get(mustPut(t, l)); !slices.Equal(got, l) || err != api.OK {
			t.Fatalf("Get of Put(%v) is %v, %d", l, got, err)
		}
	}
	lists(2, rights(), visit)
	lists(4, some(), visit)
	for _, l := range longs() {
		visit(l)
	}
	for n := range 7 {
		for _, v := range rights() {
			visit(slices.Repeat([]api.Value{v}, n))
		}
	}
}

// unlike is how two lists stand at their first unlike value, and whether there is one.
func unlike(a, b []api.Value) (int, bool) {
	for i := range min(len(a), len(b)) {
		if n := value.Order(a[i], b[i]); n != 0 {
			return n, true
		}
	}
	return 0, false
}

// P4.4: bytes stand as the values do, and a list that begins another one has bytes that begin its.
func TestOrderOfBytes(t *testing.T) {
	var all [][]api.Value
	lists(1, rights(), func(l []api.Value) { all = append(all, l) })
	lists(2, some(), func(l []api.Value) { all = append(all, l) })
	lists(3, []api.Value{{}, number(3), text(""), text("a")}, func(l []api.Value) { all = append(all, l) })
	all = append(all, longs()...)
	for _, a := range all {
		for _, b := range all {
			putA, putB := mustPut(t, a), mustPut(t, b)
			want, found := unlike(a, b)
			switch {
			case found && bytes.Compare(putA, putB) != want:
				t.Fatalf("of %v and %v the values stand %d, the bytes %d", a, b, want, bytes.Compare(putA, putB))
			case !found && keys.Begins(putB, putA) != (len(a) <= len(b)):
				t.Fatalf("of %v and %v the bytes begin not as the lists do", a, b)
			case found && (keys.Begins(putA, putB) || keys.Begins(putB, putA)):
				t.Fatalf("of %v and %v bytes begin the other one's", a, b)
			}
		}
	}
}

// P4.4: single values, as they stand in the order by hand, have bytes that rise.
func TestBytesRise(t *testing.T) {
	l := rights()
	for i := 1; i < len(l); i++ {
		a, b := mustPut(t, l[i-1:i]), mustPut(t, l[i:i+1])
		if bytes.Compare(a, b) != -1 {
			t.Errorf("%v has the bytes %q, %v behind it %q", l[i-1], a, l[i], b)
		}
	}
}
