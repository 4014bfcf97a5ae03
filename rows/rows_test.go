package rows_test

import (
	"bytes"
	"math/big"
	"slices"
	"strings"
	"testing"

	"registrar/api"
	"registrar/rows"
)

const (
	most  = 1<<63 - 1
	least = -1 << 63
)

func number(n int) api.Value { return api.Value{Kind: api.Int, N: n} }

func bit(n int) api.Value { return api.Value{Kind: api.Bool, N: n} }

func text(s string) api.Value { return api.Value{Kind: api.Text, S: s} }

func row(num int, v ...api.Value) api.Row { return api.Row{Num: num, V: v} }

// rights are right values.
func rights() []api.Value {
	return []api.Value{
		{},
		number(0), number(-1), number(1), number(63), number(-64), number(64), number(-65), number(127), number(8191), number(-8192), number(8192),
		number(1 << 32), number(-1 << 32), number(1 << 62), number(-1 << 62), number(most), number(most - 1), number(least), number(least + 1),
		bit(0), bit(1),
		text(""), text(" "), text("~"), text("a"), text("it's"), text(strings.Repeat("b", 31)), text(strings.Repeat("~", 32)),
	}
}

// wrongs are values that are not right.
func wrongs() []api.Value {
	return []api.Value{
		{N: 1}, {N: -1}, {S: "a"}, {Kind: api.Int, N: 1, S: "a"},
		bit(2), bit(-1), bit(256), bit(257), bit(most), bit(least), {Kind: api.Bool, N: 1, S: "a"},
		{Kind: api.Text, N: 1}, {Kind: api.Text, N: 1, S: "a"}, text(strings.Repeat("a", 33)), text(strings.Repeat("a", 1000)),
		text("\x00"), text("a\x00b"), text("\n"), text("\x1f"), text("\x7f"), text("\x80"), text("a\xff"), text("é"),
		{Kind: 4}, {Kind: 5, N: 1, S: "a"}, {Kind: -1}, {Kind: 1 << 32}, {Kind: 1<<32 + 1}, {Kind: most}, {Kind: least},
	}
}

// nums are right numbers of rows, among them all at which a small number gets one byte more.
func nums() []int {
	l := []int{0, 1, 2, 5, 300, most - 1, most}
	for i := 1; i < 9; i++ {
		l = append(l, 1<<(7*i)-1, 1<<(7*i), 1<<(7*i)+1)
	}
	return l
}

// someRows are right rows: each list of at most three of a few values, of all right values by themselves and six times, with each number.
func someRows() []api.Row {
	var l []api.Row
	lists(3, []api.Value{{}, number(-65), number(0), bit(1), text(""), text("a b")}, func(v []api.Value) { l = append(l, row(130, v...)) })
	for _, v := range rights() {
		l = append(l, row(1, v), row(0, slices.Repeat([]api.Value{v}, 6)...), row(7, number(-1), v, v, bit(0)))
	}
	for _, n := range nums() {
		l = append(l, row(n), row(n, number(n), number(-n), number(-n-1)), row(n, bit(0), text("x"), api.Value{}, number(n)))
	}
	return append(l, longs()...)
}

// longs are rows of which each byte tells something.
func longs() []api.Row {
	return []api.Row{
		row(most, text(strings.Repeat("k", 32)), number(-2), bit(1), api.Value{}, text(""), number(most)),
		row(0x0102030405060708, number(0x0102030405060708), number(least), text("it's"), api.Value{}, bit(0)),
		row(1<<21, api.Value{}, api.Value{}, api.Value{}, api.Value{}, api.Value{}, text(strings.Repeat("~", 31))),
		row(127), row(128, number(least)), row(0, bit(1), bit(0), number(-8193)),
	}
}

// lists calls visit with each list of at most n of these values.
func lists(n int, of []api.Value, visit func(l []api.Value)) {
	var grow func(l []api.Value)
	grow = func(l []api.Value) {
		visit(slices.Clone(l))
		if len(l) < n {
			for _, v := range of {
				grow(append(slices.Clone(l), v))
			}
		}
	}
	grow(nil)
}

// each calls visit with each string of at most n of these bytes.
func each(n int, of []byte, visit func(b []byte)) {
	var grow func(b []byte)
	grow = func(b []byte) {
		visit(slices.Clone(b))
		if len(b) < n {
			for _, c := range of {
				grow(append(slices.Clone(b), c))
			}
		}
	}
	grow(nil)
}

// equal asks whether two rows are one, field by field.
func equal(a, b api.Row) bool {
	if a.Num != b.Num || len(a.V) != len(b.V) {
		return false
	}
	for i, v := range a.V {
		if w := b.V[i]; v.Kind != w.Kind || v.N != w.N || v.S != w.S {
			return false
		}
	}
	return true
}

// smallOf is a number as a small number, by big numbers.
func smallOf(n *big.Int) []byte {
	var b []byte
	left, rest := new(big.Int).Set(n), new(big.Int)
	for {
		left.DivMod(left, big.NewInt(128), rest)
		if left.Sign() == 0 {
			return append(b, byte(rest.Int64()))
		}
		b = append(b, byte(rest.Int64()+128))
	}
}

// turnedOf is a number as a turned number, by big numbers.
func turnedOf(n int) []byte {
	double := big.NewInt(int64(n))
	double.Mul(double, big.NewInt(2))
	if n < 0 {
		double.Neg(double)
		double.Sub(double, big.NewInt(1))
	}
	return smallOf(double)
}

// bytesOf are the bytes of a right row.
func bytesOf(r api.Row) []byte {
	b := append(smallOf(big.NewInt(int64(r.Num))), byte(len(r.V)))
	kinds, power := 0, 1
	for _, v := range r.V {
		kinds += v.Kind * power
		power *= 4
	}
	b = append(b, byte(kinds%256), byte(kinds/256))
	for _, v := range r.V {
		switch v.Kind {
		case api.Int:
			b = append(b, turnedOf(v.N)...)
		case api.Bool:
			b = append(b, byte(v.N))
		case api.Text:
			b = append(append(b, byte(len(v.S))), v.S...)
		}
	}
	return b
}

func mustPut(t *testing.T, r api.Row) []byte {
	t.Helper()
	b, err := rows.Put(r)
	if err != api.OK {
		t.Fatalf("Put(%v): %d", r, err)
	}
	return b
}

// P5.1: Check of right rows.
func TestCheck(t *testing.T) {
	for _, r := range someRows() {
		if err := rows.Check(r); err != api.OK {
			t.Errorf("Check(%v) is %d", r, err)
		}
	}
}

// checkRefused asks Check, Put and Size of a row that may not be.
func checkRefused(t *testing.T, r api.Row, want api.Errno) {
	t.Helper()
	if err := rows.Check(r); err != want {
		t.Errorf("Check(%v) is %d, want %d", r, err, want)
	}
	if b, err := rows.Put(r); len(b) != 0 || err != want {
		t.Errorf("Put(%v) is %v, %d; want %d", r, b, err, want)
	}
	if n := rows.Size(r); n != 0 {
		t.Errorf("Size(%v) is %d", r, n)
	}
}

// P5.1: numbers below 0, values that are not right wherever they stand, and too many values, which are told first.
func TestRefuses(t *testing.T) {
	for _, num := range []int{-1, -2, -128, -1 << 32, least + 1, least} {
		checkRefused(t, row(num), api.ErrArg)
		checkRefused(t, row(num, rights()[:6]...), api.ErrArg)
		checkRefused(t, row(num, rights()[:7]...), api.ErrLong)
	}
	for _, wrong := range wrongs() {
		for n := 1; n <= 12; n++ {
			for at := range n {
				v := slices.Repeat([]api.Value{number(7)}, n)
				v[at] = wrong
				want := api.ErrArg
				if n > 6 {
					want = api.ErrLong
				}
				checkRefused(t, row(3, v...), want)
				checkRefused(t, row(-3, v...), want)
			}
		}
	}
	for n := range 300 {
		r := row(1, slices.Repeat([]api.Value{bit(1)}, n)...)
		if n > 6 {
			checkRefused(t, r, api.ErrLong)
		} else if err := rows.Check(r); err != api.OK {
			t.Errorf("Check(%v) is %d", r, err)
		}
	}
}

// byHand are rows and their bytes.
func byHand() []struct {
	r api.Row
	b string
} {
	return []struct {
		r api.Row
		b string
	}{
		{row(0), "\x00\x00\x00\x00"},
		{row(1, number(-1), api.Value{}), "\x01\x02\x01\x00\x01"},
		{row(127), "\x7f\x00\x00\x00"},
		{row(128), "\x80\x01\x00\x00\x00"},
		{row(300), "\xac\x02\x00\x00\x00"},
		{row(16383), "\xff\x7f\x00\x00\x00"},
		{row(16384), "\x80\x80\x01\x00\x00\x00"},
		{row(most), "\xff\xff\xff\xff\xff\xff\xff\xff\x7f\x00\x00\x00"},
		{row(0, api.Value{}), "\x00\x01\x00\x00"},
		{row(0, number(0)), "\x00\x01\x01\x00\x00"},
		{row(0, number(1)), "\x00\x01\x01\x00\x02"},
		{row(0, number(63)), "\x00\x01\x01\x00\x7e"},
		{row(0, number(-64)), "\x00\x01\x01\x00\x7f"},
		{row(0, number(64)), "\x00\x01\x01\x00\x80\x01"},
		{row(0, number(-65)), "\x00\x01\x01\x00\x81\x01"},
		{row(0, number(-1<<62)), "\x00\x01\x01\x00\xff\xff\xff\xff\xff\xff\xff\xff\x7f"},
		{row(0, number(1<<62)), "\x00\x01\x01\x00\x80\x80\x80\x80\x80\x80\x80\x80\x80\x01"},
		{row(0, number(most)), "\x00\x01\x01\x00\xfe\xff\xff\xff\xff\xff\xff\xff\xff\x01"},
		{row(0, number(least)), "\x00\x01\x01\x00\xff\xff\xff\xff\xff\xff\xff\xff\xff\x01"},
		{row(0, bit(0)), "\x00\x01\x02\x00\x00"},
		{row(0, bit(1)), "\x00\x01\x02\x00\x01"},
		{row(0, text("")), "\x00\x01\x03\x00\x00"},
		{row(0, text(" ~")), "\x00\x01\x03\x00\x02 ~"},
		{row(0, text(strings.Repeat("z", 32))), "\x00\x01\x03\x00 " + strings.Repeat("z", 32)},
		{row(0, make([]api.Value, 6)...), "\x00\x06\x00\x00"},
		{row(2, api.Value{}, api.Value{}, api.Value{}, api.Value{}, number(0)), "\x02\x05\x00\x01\x00"},
		{row(2, text("a"), text(""), bit(1), number(5), bit(0), text("b")), "\x02\x06\x6f\x0e\x01a\x00\x01\x0a\x00\x01b"},
		{row(2, slices.Repeat([]api.Value{text("")}, 6)...), "\x02\x06\xff\x0f\x00\x00\x00\x00\x00\x00"},
	}
}

// P5.1, P5.2: bytes by hand, of a row and back.
func TestByHand(t *testing.T) {
	for _, x := range byHand() {
		if b, err := rows.Put(x.r); string(b) != x.b || err != api.OK {
			t.Errorf("Put(%v) is %q, %d; want %q", x.r, b, err, x.b)
		}
		if n := rows.Size(x.r); n != len(x.b) {
			t.Errorf("Size(%v) is %d, want %d", x.r, n, len(x.b))
		}
		if r, err := rows.Get([]byte(x.b)); !equal(r, x.r) || err != api.OK {
			t.Errorf("Get(%q) is %v, %d; want %v", x.b, r, err, x.r)
		}
	}
}

// checkPut holds Put and Size against bytes that are made by big numbers, and Get of them against the row.
func checkPut(t *testing.T, r api.Row) {
	t.Helper()
	b, want := mustPut(t, r), bytesOf(r)
	if !bytes.Equal(b, want) {
		t.Fatalf("Put(%v) is %q, want %q", r, b, want)
	}
	if n := rows.Size(r); n != len(want) {
		t.Fatalf("Size(%v) is %d, want %d", r, n, len(want))
	}
	if got, err := rows.Get(b); !equal(got, r) || err != api.OK || !rows.Same(got, r) {
		t.Fatalf("Get of Put(%v) is %v, %d", r, got, err)
	}
}

// P5.1, P5.3: Put and Size; Get of Put is the row.
func TestPut(t *testing.T) {
	for _, r := range someRows() {
		checkPut(t, r)
	}
	lists(2, rights(), func(v []api.Value) { checkPut(t, row(1, v...)) })
	lists(6, []api.Value{{}, number(-1), text("q")}, func(v []api.Value) { checkPut(t, row(9, v...)) })
	for i := range 63 {
		for d := -1; d <= 1; d++ {
			checkPut(t, row(1<<i+d, number(1<<i+d), number(-1<<i+d), number(-1<<63+1<<i+d)))
		}
	}
	for n := range 40000 {
		checkPut(t, row(n, number(n), number(-n)))
	}
	for c := byte(32); c <= 126; c++ {
		checkPut(t, row(int(c), text(strings.Repeat(string(rune(c)), int(c)%33))))
	}
}

// P5.1: the row that is handed in stays, its spare room too, and the bytes are new each time.
func TestPutLeavesAlone(t *testing.T) {
	room := append([]api.Value{number(1), text("a"), bit(1), {}}, rights()[:4]...)
	kept := slices.Clone(room)
	r := api.Row{Num: 5, V: room[:3]}
	a := mustPut(t, r)
	b := mustPut(t, r)
	rows.Check(r)
	rows.Size(r)
	rows.Same(r, r)
	clear(a[:cap(a)])
	if !slices.Equal(room, kept) || !bytes.Equal(b, bytesOf(r)) {
		t.Errorf("Put has changed %v to %v, or its bytes are shared: %q", kept, room, b)
	}
}

// P5.1, P5.2: no values and an empty list of them are one.
func TestNoValues(t *testing.T) {
	none, empty := api.Row{Num: 4}, api.Row{Num: 4, V: []api.Value{}}
	if !bytes.Equal(mustPut(t, none), mustPut(t, empty)) || !rows.Same(none, empty) || rows.Size(none) != rows.Size(empty) {
		t.Error("no values are told from an empty list of them")
	}
}

// model reads byte by byte, by the words: what is in it is what has been read so far.
type model struct {
	r     api.Row
	part  string // what is under way
	bytes []byte // of it
	count int
	left  []int // the kinds of the values that are to come
}

// small takes a small number's byte, and tells whether it is the last one.
func (m *model) small(c byte) (*big.Int, bool, api.Errno) {
	m.bytes = append(m.bytes, c)
	switch n := len(m.bytes); {
	case n == 10 && c > 1, n > 1 && c == 0:
		return nil, false, api.ErrForm
	case c >= 128:
		return nil, false, api.OK
	}
	sum := new(big.Int)
	for _, b := range slices.Backward(m.bytes) {
		sum.Mul(sum, big.NewInt(128))
		sum.Add(sum, big.NewInt(int64(b%128)))
	}
	return sum, true, api.OK
}

// next goes over to what comes next, behind the values that have no bytes.
func (m *model) next() {
	m.bytes, m.part = nil, "rest"
	for len(m.left) > 0 {
		kind := m.left[0]
		m.left = m.left[1:]
		if m.part = []string{"", "int", "bool", "length"}[kind]; m.part != "" {
			return
		}
		m.part = "rest"
		m.r.V = append(m.r.V, api.Value{})
	}
}

func (m *model) value(v api.Value) {
	m.r.V = append(m.r.V, v)
	m.next()
}

// take is the error at the next byte.
func (m *model) take(c byte) api.Errno {
	switch m.part {
	case "number":
		n, last, err := m.small(c)
		if last && !n.IsInt64() {
			return api.ErrForm
		}
		if last {
			m.r.Num, m.part, m.bytes = int(n.Int64()), "count", nil
		}
		return err
	case "count":
		m.count, m.part = int(c), "kinds"
		if c > 6 {
			return api.ErrForm
		}
	case "kinds":
		if m.bytes = append(m.bytes, c); len(m.bytes) == 2 {
			return m.kinds(int(m.bytes[0]) + 256*int(m.bytes[1]))
		}
	case "rest":
		return api.ErrRest
	default:
		return m.within(c)
	}
	return api.OK
}

func (m *model) kinds(sum int) api.Errno {
	for range m.count {
		m.left = append(m.left, sum%4)
		sum /= 4
	}
	if sum > 0 {
		return api.ErrForm
	}
	m.next()
	return api.OK
}

// within is the error at the next byte of a value.
func (m *model) within(c byte) api.Errno {
	switch m.part {
	case "int":
		n, last, err := m.small(c)
		if last {
			odd := n.Bit(0) == 1
			n.Rsh(n, 1)
			if odd {
				n.Neg(n.Add(n, big.NewInt(1)))
			}
			m.value(number(int(n.Int64())))
		}
		return err
	case "bool":
		if c > 1 {
			return api.ErrForm
		}
		m.value(bit(int(c)))
	case "length":
		m.count, m.part = int(c), "text"
		if c > 32 {
			return api.ErrForm
		}
		if c == 0 {
			m.value(text(""))
		}
	case "text":
		if m.bytes = append(m.bytes, c); len(m.bytes) == m.count {
			if slices.ContainsFunc(m.bytes, func(c byte) bool { return c < ' ' || c > '~' }) {
				return api.ErrForm
			}
			m.value(text(string(m.bytes)))
		}
	}
	return api.OK
}

// rowOf is what Get must answer.
func rowOf(b []byte) (api.Row, api.Errno) {
	m := model{part: "number"}
	for _, c := range b {
		if err := m.take(c); err != api.OK {
			return api.Row{}, err
		}
	}
	if m.part != "rest" {
		return api.Row{}, api.ErrEnd
	}
	return m.r, api.OK
}

// checkGet holds Get against the model, and Put of what it answers against the bytes.
func checkGet(t *testing.T, b []byte) {
	t.Helper()
	kept := slices.Clone(b)
	want, wantErr := rowOf(b)
	r, err := rows.Get(b)
	if !equal(r, want) || err != wantErr {
		t.Fatalf("Get(%q) is %v, %d; want %v, %d", b, r, err, want, wantErr)
	}
	if !bytes.Equal(b, kept) {
		t.Fatalf("Get has changed %q to %q", kept, b)
	}
	if err == api.OK && !bytes.Equal(mustPut(t, r), b) {
		t.Fatalf("Put of Get(%q) is %q", b, mustPut(t, r))
	}
}

// P5.2: bytes of no row, by hand.
func TestGetRefuses(t *testing.T) {
	nine, a31, a32, a33 := strings.Repeat("\xff", 9), strings.Repeat("a", 31), strings.Repeat("a", 32), strings.Repeat("a", 33)
	for _, x := range []struct {
		b    string
		want api.Errno
	}{
		{"", api.ErrEnd}, {"\x80", api.ErrEnd}, {nine, api.ErrEnd}, {"\x00", api.ErrEnd}, {"\x00\x00", api.ErrEnd}, {"\x00\x00\x00", api.ErrEnd},
		{"\x00\x01\x01\x00", api.ErrEnd}, {"\x00\x01\x01\x00\x80", api.ErrEnd}, {"\x00\x01\x01\x00" + nine, api.ErrEnd},
		{"\x00\x01\x02\x00", api.ErrEnd}, {"\x00\x01\x03\x00", api.ErrEnd}, {"\x00\x02\x04\x00", api.ErrEnd}, {"\x00\x02\x0a\x00\x01", api.ErrEnd},

		// A small number's last byte 0, behind one other and behind nine.
		{"\x80\x00", api.ErrForm}, {"\xff\x00\x00\x00\x00", api.ErrForm}, {"\x80\x80\x00", api.ErrForm}, {nine + "\x00\x00\x00\x00", api.ErrForm},
		{"\x00\x01\x01\x00\x80\x00", api.ErrForm}, {"\x00\x01\x01\x00" + nine + "\x00", api.ErrForm},
		// A tenth byte above 1, whether it would be the last one or not; one of 1 that a row's number may not have, but an Int may.
		{nine + "\x02", api.ErrForm}, {nine + "\x7f\x00\x00\x00", api.ErrForm}, {nine + "\x80", api.ErrForm}, {nine + "\x81\x00", api.ErrForm}, {nine + nine, api.ErrForm},
		{nine + "\x01", api.ErrForm}, {nine + "\x01\x00\x00\x00", api.ErrForm}, {strings.Repeat("\x80", 9) + "\x01\x00\x00\x00", api.ErrForm},
		{"\x00\x01\x01\x00" + nine + "\x02", api.ErrForm}, {"\x00\x01\x01\x00" + nine + "\x80\x01", api.ErrForm}, {"\x00\x01\x01\x00" + nine + "\x81", api.ErrForm},

		{"\x00\x07", api.ErrForm}, {"\x00\x07\x00\x00", api.ErrForm}, {"\x00\xff", api.ErrForm}, {"\x00\x80\x00\x00", api.ErrForm},

		// Kinds of values that are not there, in either byte; without the second one there are no two.
		{"\x00\x00\x01\x00", api.ErrForm}, {"\x00\x00\x00\x01", api.ErrForm}, {"\x00\x00\x00\x80", api.ErrForm}, {"\x00\x01\x04\x00", api.ErrForm},
		{"\x00\x01\x05\x00\x00\x00", api.ErrForm}, {"\x00\x03\x40\x00", api.ErrForm}, {"\x00\x04\x00\x01", api.ErrForm}, {"\x00\x06\x00\x10", api.ErrForm},
		{"\x00\x06\x00\x40", api.ErrForm}, {"\x00\x05\x00\x04", api.ErrForm}, {"\x00\x00\x01", api.ErrEnd}, {"\x00\x01\xff", api.ErrEnd},

		{"\x00\x01\x02\x00\x02", api.ErrForm}, {"\x00\x01\x02\x00\xff\x00", api.ErrForm}, {"\x00\x02\x0a\x00\x01\x02", api.ErrForm},

		// A length that is too great is told ahead of bytes that are missing; bytes that are missing ahead of those that are no plain ones.
		{"\x00\x01\x03\x00\x21" + a33, api.ErrForm}, {"\x00\x01\x03\x00\x21", api.ErrForm}, {"\x00\x01\x03\x00\xff\x00", api.ErrForm},
		{"\x00\x01\x03\x00\x20" + a31, api.ErrEnd}, {"\x00\x01\x03\x00\x02\x00", api.ErrEnd}, {"\x00\x01\x03\x00\x03\xffa", api.ErrEnd}, {"\x00\x01\x03\x00\x01", api.ErrEnd},
		{"\x00\x01\x03\x00\x01\x00", api.ErrForm}, {"\x00\x01\x03\x00\x01\x1f", api.ErrForm}, {"\x00\x01\x03\x00\x01\x7f", api.ErrForm}, {"\x00\x01\x03\x00\x01\xff", api.ErrForm},
		{"\x00\x01\x03\x00\x20" + a31 + "\x80", api.ErrForm}, {"\x00\x01\x03\x00\x20\x1f" + a31 + "rest", api.ErrForm},

		{"\x00\x00\x00\x00\x00", api.ErrRest}, {"\x01\x02\x01\x00\x01\xff", api.ErrRest}, {"\x00\x01\x03\x00\x20" + a33, api.ErrRest},
		{"\x00\x01\x03\x00\x00\x00", api.ErrRest}, {"\x00\x06\x00\x00" + a32, api.ErrRest}, {"\x00\x01\x02\x00\x01\x02", api.ErrRest},

		// The first of several.
		{"\x80\x00\x07\xff\xff", api.ErrForm}, {"\x00\x02\x0b\x00\x01a\x02rest", api.ErrForm}, {"\x00\x02\x0e\x00\x02\x05", api.ErrForm},
		{"\x00\x02\x0b\x00\x05a\x02", api.ErrEnd}, {"\x00\x02\x05\x00\x80\x80\x80", api.ErrEnd},
	} {
		if r, err := rows.Get([]byte(x.b)); !equal(r, api.Row{}) || err != x.want {
			t.Errorf("Get(%q) is %v, %d; want %d", x.b, r, err, x.want)
		}
	}
	if r, err := rows.Get(nil); !equal(r, api.Row{}) || err != api.ErrEnd {
		t.Errorf("Get of nothing is %v, %d", r, err)
	}
}

// P5.2: all short strings of the bytes at which something turns, from the beginning on and behind each byte of the head.
func TestGetAll(t *testing.T) {
	each(6, []byte{0, 1, 2, 3, 6, 7, 128, 255}, func(b []byte) { checkGet(t, b) })
	each(4, []byte{0, 1, 2, 3, 16, 31, 32, 'a', 127, 128, 129, 255}, func(b []byte) {
		for _, head := range []string{"\x01\x01", "\x80\x01\x01\x01\x00", "\x05\x02\x06\x00", "\x05\x02\x0d\x00", "\x05\x03\x33\x00", "\x00\x06\x00\x0e"} {
			checkGet(t, append([]byte(head), b...))
		}
	})
	for low := range 256 {
		for high := range 256 {
			for n := range 8 {
				checkGet(t, []byte{0, byte(n), byte(low), byte(high)})
			}
		}
	}
}

// P5.2: small numbers of eight to eleven bytes, in a row's number and in an Int.
func TestGetLongNumbers(t *testing.T) {
	for _, fill := range []byte{128, 129, 255} {
		each(3, []byte{0, 1, 2, 63, 64, 127, 128, 129, 255}, func(b []byte) {
			for n := 6; n <= 10; n++ {
				small := append(bytes.Repeat([]byte{fill}, n), b...)
				checkGet(t, append(slices.Clone(small), 0, 0, 0))
				checkGet(t, append([]byte{3, 1, 1, 0}, small...))
			}
		})
	}
}

// P5.2: Texts by length and by how many bytes there are, of which one is another one.
func TestGetTexts(t *testing.T) {
	for length := range 256 {
		for n := range 40 {
			b := append([]byte{0, 1, 3, 0, byte(length)}, bytes.Repeat([]byte{'x'}, n)...)
			checkGet(t, b)
			for at := 5; at < len(b); at += 7 {
				for _, c := range []byte{0, 31, 32, 126, 127, 255} {
					spoilt := slices.Clone(b)
					spoilt[at] = c
					checkGet(t, spoilt)
				}
			}
		}
	}
}

// P5.2: bytes of rows, cut short everywhere, and with another byte, one more and one less everywhere.
func TestGetSpoilt(t *testing.T) {
	for _, r := range longs() {
		b := bytesOf(r)
		for at := range b {
			checkGet(t, b[:at])
			checkGet(t, slices.Delete(slices.Clone(b), at, at+1))
			for c := range 256 {
				spoilt := slices.Clone(b)
				spoilt[at] = byte(c)
				checkGet(t, spoilt)
				checkGet(t, spoilt[:at+1])
				checkGet(t, slices.Insert(slices.Clone(b), at, byte(c)))
			}
		}
		for c := range 256 {
			checkGet(t, append(slices.Clone(b), byte(c)))
		}
	}
}

// P5.2: the row shares nothing with the bytes, nor with that of another call.
func TestGetIsNew(t *testing.T) {
	for _, r := range longs() {
		b := bytesOf(r)
		one, _ := rows.Get(b)
		other, _ := rows.Get(b)
		clear(b)
		clear(one.V[:cap(one.V)])
		if !equal(other, r) {
			t.Errorf("Get of the bytes of %v is %v when they are gone", r, other)
		}
	}
}

// P5.3: Same by hand.
func TestSameByHand(t *testing.T) {
	for _, x := range []struct {
		a, b api.Row
		want bool
	}{
		{row(0), row(0), true}, {row(1), row(2), false}, {row(1), row(-1), false}, {row(-1), row(-1), true}, {row(least), row(0), false},
		{row(1, api.Value{}), row(1), false}, {row(1), row(1, api.Value{}), false}, {row(1, api.Value{}), row(1, api.Value{}), true},
		{row(1, number(0)), row(1, api.Value{}), false}, {row(1, number(0)), row(1, bit(0)), false}, {row(1, text("")), row(1, api.Value{}), false},
		{row(1, number(1)), row(1, number(2)), false}, {row(1, text("a")), row(1, text("A")), false}, {row(1, text("a")), row(1, text("a ")), false},
		{row(1, number(1), number(2)), row(1, number(2), number(1)), false}, {row(1, number(1), number(2)), row(1, number(1)), false},
		{row(1, number(1), number(2)), row(1, number(1), number(2)), true}, {row(1, number(1), number(2)), row(2, number(1), number(2)), false},
		{row(-5, bit(2)), row(-5, bit(2)), true}, {row(1, bit(2)), row(1, bit(3)), false}, {row(1, make([]api.Value, 9)...), row(1, make([]api.Value, 9)...), true},
		{row(1, make([]api.Value, 9)...), row(1, make([]api.Value, 8)...), false},
	} {
		if same := rows.Same(x.a, x.b); same != x.want {
			t.Errorf("Same(%v, %v) is %t", x.a, x.b, same)
		}
		if same := rows.Same(x.b, x.a); same != x.want {
			t.Errorf("Same(%v, %v) is %t", x.b, x.a, same)
		}
	}
}

// P5.3: Same of all right and wrong values, at each place.
func TestSame(t *testing.T) {
	all := append(rights(), wrongs()...)
	for i, a := range all {
		for j, b := range all {
			for at := range 3 {
				one, other := make([]api.Value, 3), make([]api.Value, 3)
				one[at], other[at] = a, b
				if same := rows.Same(row(7, one...), row(7, other...)); same != (i == j) {
					t.Errorf("Same of %v and %v at %d is %t", a, b, at, same)
				}
			}
		}
	}
}

// P5.3: rows are the same just where their bytes are.
func TestSameBytes(t *testing.T) {
	l := someRows()
	put := make([][]byte, len(l))
	for i, r := range l {
		put[i] = mustPut(t, r)
	}
	for i, a := range l {
		for j, b := range l {
			if same := rows.Same(a, b); same != bytes.Equal(put[i], put[j]) {
				t.Fatalf("Same(%v, %v) is %t, but the bytes are %q and %q", a, b, same, put[i], put[j])
			}
		}
	}
}
