package page

import (
	"iter"
	"slices"

	"registrar/api"
)

// Numbers of a page have two bytes of eight bits each. The first one is how many slots there are; behind it stands each slot's mark.
const (
	numberBytes = 2
	byteBits    = 8
	countAt     = 0
)

// A slot's mark is how many bytes of data it has, and one more; that of an empty one is 0.
const (
	emptyMark = 0
	maxData   = 255
)

// maxSlots is how many marks there can be behind the count.
const maxSlots = api.MaxPage/numberBytes - 1

// number is the number at a place of a page.
func number(p []byte, at int) int {
	return int(p[at])<<byteBits | int(p[at+1])
}

// putNumber writes a number to a place of a page.
func putNumber(p []byte, at, n int) {
	p[at], p[at+1] = byte(n>>byteBits), byte(n)
}

// count is how many slots there are.
func count(p []byte) int {
	return number(p, countAt)
}

// markAt is where a slot's mark is.
func markAt(slot int) int {
	return numberBytes * (slot + 1)
}

// spot is where a slot's data begins and ends. An empty slot has a spot without bytes, where its data would end.
type spot struct {
	full     bool
	from, to int
}

// size is how many bytes of data a spot has.
func (s spot) size() int {
	return s.to - s.from
}

// spots are all slots, the empty ones too, with their spots. It reads nothing but marks, so that it can be asked what a page would have before it is known to be one.
func spots(p []byte) iter.Seq2[int, spot] {
	return func(yield func(int, spot) bool) {
		to := api.MaxPage
		for slot := range count(p) {
			s := spot{from: to, to: to}
			if mark := number(p, markAt(slot)); mark != emptyMark {
				s.full = true
				s.from -= mark - 1
			}
			if !yield(slot, s) {
				return
			}
			to = s.from
		}
	}
}

// used is how many slots there are up to the last one that is not empty.
func used(p []byte) int {
	n := 0
	for slot, s := range spots(p) {
		if s.full {
			n = slot + 1
		}
	}
	return n
}

// gap is where what lies between the marks and the data begins and ends.
func gap(p []byte) (int, int) {
	to := api.MaxPage
	for _, s := range spots(p) {
		to = s.from
	}
	return markAt(count(p)), to
}

// room is how many bytes a page has between the marks and the data.
func room(p []byte) int {
	from, to := gap(p)
	return to - from
}

// blank asks whether all bytes are noughts.
func blank(b []byte) bool {
	return !slices.ContainsFunc(b, func(c byte) bool { return c != 0 })
}

// find is where a slot has its data.
func find(p []byte, slot int) (spot, api.Errno) {
	for k, s := range spots(p) {
		if k == slot && s.full {
			return s, api.OK
		}
	}
	return spot{}, api.ErrNone
}

// free is the first empty slot, or, if there is none, a new one; and its spot.
func free(p []byte) (int, spot) {
	for slot, s := range spots(p) {
		if !s.full {
			return slot, s
		}
	}
	_, to := gap(p)
	return count(p), spot{from: to, to: to}
}

// lay is a copy of a page that has other data in a slot, for which there is room. All data ahead of it is moved, so that no gap is left between.
func lay(p []byte, slot int, s spot, data []byte) []byte {
	_, first := gap(p)
	moved := first + s.size() - len(data)
	laid := slices.Clone(p)
	copy(laid[moved:], laid[first:s.from])
	clear(laid[first:max(first, moved)])
	copy(laid[s.to-len(data):], data)
	putNumber(laid, markAt(slot), len(data)+1)
	putNumber(laid, countAt, max(count(p), slot+1))
	return laid
}
