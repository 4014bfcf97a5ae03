package rows

import "registrar/api"

// writer has the bytes that were written. Its methods answer it, so that they are called one behind the other.
type writer struct {
	b []byte
}

// one writes a number below 256.
func (w *writer) one(n int) *writer {
	w.b = append(w.b, byte(n))
	return w
}

// small writes a small number.
func (w *writer) small(n uint64) *writer {
	for n >= more {
		w.b = append(w.b, byte(n)|more)
		n >>= smallBits
	}
	return w.one(int(n))
}

// kinds writes of which kinds values are.
func (w *writer) kinds(l []api.Value) *writer {
	sum := 0
	for i, v := range l {
		sum |= v.Kind << (kindBits * i)
	}
	return w.one(sum).one(sum >> byteBits)
}

// values writes what values have beside their kinds.
func (w *writer) values(l []api.Value) *writer {
	for _, v := range l {
		switch v.Kind {
		case api.Int:
			w.small(turned(v.N))
		case api.Bool:
			w.one(v.N)
		case api.Text:
			w.one(len(v.S)).text(v.S)
		}
	}
	return w
}

// text writes a text's bytes.
func (w *writer) text(s string) *writer {
	w.b = append(w.b, s...)
	return w
}
