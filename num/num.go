// Package num is layer 1: see shared/doc/01-num.md.
package num

import (
	"strings"

	"registrar/api"
)

// The greatest and the least whole number that there are here.
const (
	most  = 1<<63 - 1
	least = -1 << 63
)

// Read takes at most so many digits, and Digits writes at most one byte more.
const maxDigits = 19

// Plus is a sum.
func Plus(a, b int) (int, api.Errno) {
	n := a + b
	// A sum that has wrapped round stands on the wrong side of a.
	if (n < a) != (b < 0) {
		return 0, api.ErrRange
	}
	return n, api.OK
}

// Minus is a difference.
func Minus(a, b int) (int, api.Errno) {
	n := a - b
	// A difference that has wrapped round stands on the wrong side of a.
	if (n < a) != (b > 0) {
		return 0, api.ErrRange
	}
	return n, api.OK
}

// Times is a product. It is held against the bound ahead of being made, since a product that wraps round can look right.
func Times(a, b int) (int, api.Errno) {
	switch {
	case a == 0:
		// Nothing can be divided by it, and its products are always there.
	case a > 0 && b > 0:
		if b > most/a {
			goto refused
		}
	case a > 0:
		if b < least/a {
			goto refused
		}
	case b > 0:
		if a < least/b {
			goto refused
		}
	default:
		if b < most/a {
			goto refused
		}
	}
	return a * b, api.OK
refused:
	return 0, api.ErrRange
}

// Over is a quotient, cut towards 0.
func Over(a, b int) (int, api.Errno) {
	if b == 0 || a == least && b == -1 {
		return 0, api.ErrRange
	}
	return a / b, api.OK
}

// Rest is what a quotient leaves. Where the quotient can't be, neither can the rest, although the machine has one of least and -1.
func Rest(a, b int) (int, api.Errno) {
	if _, err := Over(a, b); err != api.OK {
		return 0, err
	}
	return a % b, api.OK
}

// Back is a number the other way round.
func Back(a int) (int, api.Errno) {
	return Minus(0, a)
}

// Size is a number without its sign.
func Size(a int) (int, api.Errno) {
	if a < 0 {
		return Back(a)
	}
	return a, api.OK
}

// Digits are a number's.
func Digits(a int) string {
	var digits [maxDigits + 1]byte
	// The size of the least number is none of int, but it is one of uint64.
	left := uint64(a)
	if a < 0 {
		left = -left
	}
	at := len(digits)
	for {
		at--
		digits[at] = '0' + byte(left%10)
		left /= 10
		if left == 0 {
			break
		}
	}
	if a < 0 {
		at--
		digits[at] = '-'
	}
	return string(digits[at:])
}

// Read is the number of digits.
func Read(s string) (int, api.Errno) {
	digits, below := strings.CutPrefix(s, "-")
	if !plain(digits) || below && digits == "0" {
		return 0, api.ErrForm
	}
	size := sizeOf(digits)
	if below && size <= most+1 {
		return -int(size), api.OK
	}
	if !below && size <= most {
		return int(size), api.OK
	}
	return 0, api.ErrRange
}

// plain asks whether a text is one to 19 digits, without a 0 ahead of others.
func plain(s string) bool {
	if len(s) == 0 || len(s) > maxDigits || s[0] == '0' && len(s) > 1 {
		return false
	}
	for i := range len(s) {
		if s[i] < '0' || s[i] > '9' {
			return false
		}
	}
	return true
}

// sizeOf is the number of plain digits; 19 of them stay below 2^64.
func sizeOf(digits string) uint64 {
	var size uint64
	for i := range len(digits) {
		size = size*10 + uint64(digits[i]-'0')
	}
	return size
}
