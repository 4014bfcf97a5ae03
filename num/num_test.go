package num_test

import (
	"math/big"
	"strconv"
	"strings"
	"testing"

	"registrar/api"
	"registrar/num"
)

const (
	most  = 1<<63 - 1
	least = -1 << 63
	// root is the greatest number whose square is there.
	root = 3037000499
)

type sign func(a, b int) (int, api.Errno)

// edges are numbers at which sums, products and quotients turn, and their neighbours.
func edges() []int {
	var l []int
	for _, n := range []int{0, 7, 10, 99, 1 << 31, 1 << 32, root, most / 10, most / 3, most / 2, 1000000000000000000} {
		for d := -2; d <= 2; d++ {
			l = append(l, n+d, -n-d)
		}
	}
	return append(l, most, most-1, most-2, least, least+1, least+2)
}

// mixed are numbers of all lengths, always the same ones.
func mixed(n int) []int {
	l := make([]int, 0, n)
	state := uint64(88172645463325252)
	for i := range n {
		state ^= state << 13
		state ^= state >> 7
		state ^= state << 17
		l = append(l, int(state)>>(i%64))
	}
	return l
}

// pairs calls f with each two edges, and with mixed numbers.
func pairs(f func(a, b int)) {
	l := edges()
	for _, a := range l {
		for _, b := range l {
			f(a, b)
		}
	}
	m := mixed(20001)
	for i := range len(m) - 1 {
		f(m[i], m[i+1])
		f(m[i], m[len(m)-1-i])
	}
}

// asBig is what a call must answer, if the true answer is n (nil: there is none).
func asBig(n *big.Int) (int, api.Errno) {
	if n == nil || !n.IsInt64() {
		return 0, api.ErrRange
	}
	return int(n.Int64()), api.OK
}

func same(t *testing.T, what string, a, b, n int, err api.Errno, want *big.Int) {
	t.Helper()
	if m, e := asBig(want); n != m || err != e {
		t.Fatalf("%s(%d, %d) is %d, %d; want %d, %d", what, a, b, n, err, m, e)
	}
}

// P1.1: Plus, Minus and Times, held against numbers that have no end.
func TestSumsAndProducts(t *testing.T) {
	pairs(func(a, b int) {
		x, y := big.NewInt(int64(a)), big.NewInt(int64(b))
		n, err := num.Plus(a, b)
		same(t, "Plus", a, b, n, err, new(big.Int).Add(x, y))
		n, err = num.Minus(a, b)
		same(t, "Minus", a, b, n, err, new(big.Int).Sub(x, y))
		n, err = num.Times(a, b)
		same(t, "Times", a, b, n, err, new(big.Int).Mul(x, y))
	})
}

// P1.1: Over and Rest, cut towards 0; there is neither where the quotient can't be.
func TestQuotients(t *testing.T) {
	pairs(func(a, b int) {
		var over, rest *big.Int
		x, y := big.NewInt(int64(a)), big.NewInt(int64(b))
		if b != 0 {
			over = new(big.Int).Quo(x, y)
			if over.IsInt64() {
				rest = new(big.Int).Rem(x, y)
			}
		}
		n, err := num.Over(a, b)
		same(t, "Over", a, b, n, err, over)
		n, err = num.Rest(a, b)
		same(t, "Rest", a, b, n, err, rest)
	})
}

// P1.1: the edges by their numbers, so that they do not hang on how the tests above are made.
func TestNamedEdges(t *testing.T) {
	for _, x := range []struct {
		what string
		f    sign
		a, b int
		n    int
		err  api.Errno
	}{
		{"Plus", num.Plus, most - 1, 1, most, api.OK},
		{"Plus", num.Plus, most, 1, 0, api.ErrRange},
		{"Plus", num.Plus, least + 1, -1, least, api.OK},
		{"Plus", num.Plus, least, -1, 0, api.ErrRange},
		{"Plus", num.Plus, least, least, 0, api.ErrRange},
		{"Plus", num.Plus, least, most, -1, api.OK},
		{"Minus", num.Minus, -1, least, most, api.OK},
		{"Minus", num.Minus, 0, least, 0, api.ErrRange},
		{"Minus", num.Minus, least, 1, 0, api.ErrRange},
		{"Minus", num.Minus, least, least, 0, api.OK},
		{"Times", num.Times, root, root, root * root, api.OK},
		{"Times", num.Times, root + 1, root + 1, 0, api.ErrRange},
		{"Times", num.Times, least, 1, least, api.OK},
		{"Times", num.Times, least, -1, 0, api.ErrRange},
		{"Times", num.Times, -1, least, 0, api.ErrRange},
		{"Times", num.Times, least / 2, 2, least, api.OK},
		{"Times", num.Times, 2, least / 2, least, api.OK},
		{"Times", num.Times, least / 2, -2, 0, api.ErrRange},
		{"Times", num.Times, 0, least, 0, api.OK},
		{"Times", num.Times, least, 0, 0, api.OK},
		{"Times", num.Times, 1 << 32, 1 << 32, 0, api.ErrRange},
		{"Over", num.Over, -7, 2, -3, api.OK},
		{"Over", num.Over, 7, -2, -3, api.OK},
		{"Over", num.Over, 0, 0, 0, api.ErrRange},
		{"Over", num.Over, least, -1, 0, api.ErrRange},
		{"Over", num.Over, least, 1, least, api.OK},
		{"Rest", num.Rest, -7, 2, -1, api.OK},
		{"Rest", num.Rest, 7, -2, 1, api.OK},
		{"Rest", num.Rest, 5, 0, 0, api.ErrRange},
		{"Rest", num.Rest, least, -1, 0, api.ErrRange},
		{"Rest", num.Rest, least + 1, -1, 0, api.OK},
	} {
		if n, err := x.f(x.a, x.b); n != x.n || err != x.err {
			t.Errorf("%s(%d, %d) is %d, %d; want %d, %d", x.what, x.a, x.b, n, err, x.n, x.err)
		}
	}
}

// P1.1: Back and Size, of which only the least number has none.
func TestBackAndSize(t *testing.T) {
	for _, a := range append(edges(), mixed(2000)...) {
		x := big.NewInt(int64(a))
		n, err := num.Back(a)
		same(t, "Back", a, 0, n, err, new(big.Int).Neg(x))
		n, err = num.Size(a)
		same(t, "Size", a, 0, n, err, new(big.Int).Abs(x))
	}
	if n, err := num.Back(least); n != 0 || err != api.ErrRange {
		t.Errorf("Back of the least number is %d, %d", n, err)
	}
	if n, err := num.Size(least); n != 0 || err != api.ErrRange {
		t.Errorf("Size of the least number is %d, %d", n, err)
	}
}

// P1.2: Digits.
func TestDigits(t *testing.T) {
	for n, want := range map[int]string{
		0: "0", 7: "7", -7: "-7", 10: "10", -10: "-10", 100: "100", 1234567890: "1234567890",
		most: "9223372036854775807", least: "-9223372036854775808", least + 1: "-9223372036854775807",
	} {
		if s := num.Digits(n); s != want {
			t.Errorf("Digits(%d) is %q, want %q", n, s, want)
		}
	}
	for _, n := range append(edges(), mixed(2000)...) {
		if s := num.Digits(n); s != strconv.Itoa(n) {
			t.Errorf("Digits(%d) is %q", n, s)
		}
	}
}

// P1.2: Read of what is a number, of what has another form, and of what is too great.
func TestRead(t *testing.T) {
	for _, x := range []struct {
		s   string
		n   int
		err api.Errno
	}{
		{"0", 0, api.OK}, {"7", 7, api.OK}, {"-7", -7, api.OK}, {"10", 10, api.OK}, {"-10", -10, api.OK},
		{"1000000000000000000", 1000000000000000000, api.OK},
		{"9223372036854775807", most, api.OK}, {"-9223372036854775807", -most, api.OK}, {"-9223372036854775808", least, api.OK},

		{"9223372036854775808", 0, api.ErrRange}, {"-9223372036854775809", 0, api.ErrRange},
		{"9999999999999999999", 0, api.ErrRange}, {"-9999999999999999999", 0, api.ErrRange},

		{"", 0, api.ErrForm}, {"-", 0, api.ErrForm}, {"--1", 0, api.ErrForm}, {"+1", 0, api.ErrForm},
		{"-0", 0, api.ErrForm}, {"00", 0, api.ErrForm}, {"01", 0, api.ErrForm}, {"-01", 0, api.ErrForm}, {"-00", 0, api.ErrForm},
		{"1a", 0, api.ErrForm}, {"a1", 0, api.ErrForm}, {"1-", 0, api.ErrForm}, {"1 ", 0, api.ErrForm}, {" 1", 0, api.ErrForm}, {"- 1", 0, api.ErrForm},
		{"1_0", 0, api.ErrForm}, {"0x1", 0, api.ErrForm}, {"1.0", 0, api.ErrForm}, {"1\n", 0, api.ErrForm}, {"1\x00", 0, api.ErrForm},
		{"/", 0, api.ErrForm}, {":", 0, api.ErrForm}, {"1/", 0, api.ErrForm}, {"1:", 0, api.ErrForm}, {"١", 0, api.ErrForm}, {"\xff", 0, api.ErrForm},
		// Of twenty digits the form is wrong, whatever they come to.
		{"10000000000000000000", 0, api.ErrForm}, {"-10000000000000000000", 0, api.ErrForm},
		{"18446744073709551616", 0, api.ErrForm}, {"18446744073709551617", 0, api.ErrForm}, {"00000000000000000001", 0, api.ErrForm},
		{"0000000000000000001", 0, api.ErrForm},
		// The form is asked ahead of the range.
		{"999999999999999999a", 0, api.ErrForm}, {"9999999999999999999a", 0, api.ErrForm},
		{strings.Repeat("9", 1000), 0, api.ErrForm},
	} {
		if n, err := num.Read(x.s); n != x.n || err != x.err {
			t.Errorf("Read(%q) is %d, %d; want %d, %d", x.s, n, err, x.n, x.err)
		}
	}
}

// P1.2: each single byte beside digits is refused.
func TestReadBytes(t *testing.T) {
	for b := range 256 {
		digit := b >= '0' && b <= '9'
		for _, s := range []string{string([]byte{'1', byte(b)}), string([]byte{'-', '1', byte(b), '1'})} {
			if _, err := num.Read(s); (err == api.OK) != digit || err != api.OK && err != api.ErrForm {
				t.Errorf("Read(%q): %d", s, err)
			}
		}
	}
}

// P1.3: Read of Digits is the number.
func TestReadOfDigits(t *testing.T) {
	for _, n := range append(edges(), mixed(5000)...) {
		if m, err := num.Read(num.Digits(n)); m != n || err != api.OK {
			t.Errorf("Read of Digits(%d) is %d, %d", n, m, err)
		}
	}
}

// P1.3: Plus and Times do not ask for order; Over and Rest make the number again.
func TestWhatFollows(t *testing.T) {
	pairs(func(a, b int) {
		for _, f := range []sign{num.Plus, num.Times} {
			n, err := f(a, b)
			if m, e := f(b, a); m != n || e != err {
				t.Fatalf("of %d, %d: %d, %d; turned round %d, %d", a, b, n, err, m, e)
			}
		}
		over, err := num.Over(a, b)
		rest, e := num.Rest(a, b)
		if err != e {
			t.Fatalf("Over(%d, %d): %d, but Rest: %d", a, b, err, e)
		}
		if err != api.OK {
			return
		}
		n, err := num.Times(b, over)
		if err == api.OK {
			n, err = num.Plus(n, rest)
		}
		if n != a || err != api.OK {
			t.Fatalf("of %d, %d: %d, %d make %d, %d", a, b, over, rest, n, err)
		}
	})
}
