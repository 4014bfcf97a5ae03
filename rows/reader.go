package rows

import (
	"math"

	"registrar/api"
)

// place is where reading stands: the bytes that are left, and the first error, behind which all that is read is nothing.
type place struct {
	left []byte
	err  api.Errno
}

// fail keeps an error, if there was none.
func (p *place) fail(err api.Errno) {
	if p.err == api.OK {
		p.err = err
	}
}

// take is the next bytes, so many of them; no bytes, if there are fewer, or there was an error.
func (p *place) take(size int) []byte {
	if size > len(p.left) {
		p.fail(api.ErrEnd)
	}
	if p.err != api.OK {
		return nil
	}
	taken := p.left[:size]
	p.left = p.left[size:]
	return taken
}

// one is the next byte as a number; 0, if there is none.
func (p *place) one() int {
	b := p.take(1)
	if len(b) == 0 {
		return 0
	}
	return int(b[0])
}

// end refuses bytes that are left.
func (p *place) end() {
	if len(p.left) > 0 {
		p.fail(api.ErrRest)
	}
}

// reader reads the parts of a row. What a part may not be is kept as an error of its place.
type reader struct {
	place
}

// small is a small number.
func (r *reader) small() uint64 {
	var n uint64
	for i := range smallBytes {
		c := r.one()
		n |= uint64(c%more) << (smallBits * i)
		if c == 0 && i > 0 || c > lastTenth && i == smallBytes-1 {
			r.fail(api.ErrForm)
		}
		if c < more {
			break
		}
	}
	return n
}

// number is a row's number.
func (r *reader) number() int {
	n := r.small()
	if n > math.MaxInt {
		r.fail(api.ErrForm)
	}
	return int(n)
}

// count is how many values there are.
func (r *reader) count() int {
	count := r.one()
	if count > api.MaxCols {
		r.fail(api.ErrForm)
	}
	return count
}

// kinds is the sum of the kinds of so many values. It is only asked what is in it when both of its bytes are there.
func (r *reader) kinds(count int) int {
	sum := r.one()
	sum |= r.one() << byteBits
	if sum>>(kindBits*count) != 0 {
		r.fail(api.ErrForm)
	}
	return sum
}

// values is so many values of these kinds.
func (r *reader) values(count, kinds int) []api.Value {
	var l []api.Value
	for i := range count {
		l = append(l, r.value(kinds>>(kindBits*i)&kindMask))
	}
	return l
}

// value is a value of a kind.
func (r *reader) value(kind int) api.Value {
	v := api.Value{Kind: kind}
	switch kind {
	case api.Int:
		v.N = turnedBack(r.small())
	case api.Bool:
		v.N = r.one()
	case api.Text:
		v.S = r.text()
	}
	if wrong(v) {
		r.fail(api.ErrForm)
	}
	return v
}

// text is the bytes of a Text, behind their length. A length that is too great is told ahead of bytes that are missing, since it stands ahead of them.
func (r *reader) text() string {
	size := r.one()
	if size > api.MaxText {
		r.fail(api.ErrForm)
	}
	return string(r.take(size))
}
