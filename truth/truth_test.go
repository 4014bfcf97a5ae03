package truth_test

import (
	"slices"
	"testing"

	"registrar/api"
	"registrar/truth"
)

const (
	f = truth.False
	t = truth.True
	u = truth.Unknown

	most  = 1<<63 - 1
	least = -1 << 63
)

// others are numbers that have no name, and so are Unknown.
func others() []truth.Truth {
	return []truth.Truth{-1, 3, 4, -2, 256, 257, 1 << 32, 1<<32 + 1, most, least, least + 1}
}

// each calls visit with each list of the numbers in of that has n of them.
func each(n int, of []truth.Truth, visit func(l []truth.Truth)) {
	l := make([]truth.Truth, n)
	var fill func(at int)
	fill = func(at int) {
		if at == n {
			visit(slices.Clone(l))
			return
		}
		for _, a := range of {
			l[at] = a
			fill(at + 1)
		}
	}
	fill(0)
}

// lists calls visit with all short lists of truths with names and without.
func lists(visit func(l []truth.Truth)) {
	for n := range 6 {
		each(n, []truth.Truth{f, t, u, -1, 3}, visit)
	}
	for n := range 4 {
		each(n, append([]truth.Truth{f, t, u}, others()...), visit)
	}
}

// wanted is end, if one of the list is; else Unknown, if one is; else what is left.
func wanted(l []truth.Truth, end, left truth.Truth) truth.Truth {
	if slices.Contains(l, end) {
		return end
	}
	if slices.ContainsFunc(l, func(a truth.Truth) bool { return a != left }) {
		return u
	}
	return left
}

// P2.1: the truths' numbers are those of the document.
func TestNumbers(tt *testing.T) {
	if f != 0 || t != 1 || u != 2 {
		tt.Errorf("False, True, Unknown are %d, %d, %d", f, t, u)
	}
	var zero truth.Truth
	if zero != f {
		tt.Errorf("a truth that nobody set is %d", zero)
	}
}

// P2.1: And and Or of two, by their tables.
func TestTables(tt *testing.T) {
	for _, x := range []struct{ a, b, and, or truth.Truth }{
		{f, f, f, f}, {f, t, f, t}, {f, u, f, u},
		{t, f, f, t}, {t, t, t, t}, {t, u, u, t},
		{u, f, f, u}, {u, t, u, t}, {u, u, u, u},
	} {
		if n := truth.And(x.a, x.b); n != x.and {
			tt.Errorf("And(%d, %d) is %d, want %d", x.a, x.b, n, x.and)
		}
		if n := truth.Or(x.a, x.b); n != x.or {
			tt.Errorf("Or(%d, %d) is %d, want %d", x.a, x.b, n, x.or)
		}
	}
}

// P2.1: And and Or of none, of one, and of more, with numbers that have no name among them.
func TestLists(tt *testing.T) {
	if n := truth.And(); n != t {
		tt.Errorf("And of none is %d", n)
	}
	if n := truth.Or(); n != f {
		tt.Errorf("Or of none is %d", n)
	}
	lists(func(l []truth.Truth) {
		if n, want := truth.And(l...), wanted(l, f, t); n != want {
			tt.Fatalf("And(%v) is %d, want %d", l, n, want)
		}
		if n, want := truth.Or(l...), wanted(l, t, f); n != want {
			tt.Fatalf("Or(%v) is %d, want %d", l, n, want)
		}
	})
}

// P2.1: what ends a long list counts wherever it stands.
func TestLongLists(tt *testing.T) {
	const n = 300
	for _, x := range []struct {
		of, one, and, or truth.Truth
	}{
		{t, f, f, t}, {t, u, u, t}, {f, t, f, t}, {f, u, f, u}, {u, t, u, t}, {u, f, f, u}, {9, f, f, u}, {9, t, u, t},
	} {
		for at := range n {
			l := slices.Repeat([]truth.Truth{x.of}, n)
			l[at] = x.one
			if and, or := truth.And(l...), truth.Or(l...); and != x.and || or != x.or {
				tt.Fatalf("of %d with a %d at %d And is %d, Or is %d; want %d, %d", x.of, x.one, at, and, or, x.and, x.or)
			}
		}
	}
}

// P2.1, R3: a list that is handed in stays as it was, and so does its spare room.
func TestListsStay(tt *testing.T) {
	each(4, []truth.Truth{f, t, u, 7}, func(l []truth.Truth) {
		for n := range len(l) + 1 {
			was := slices.Clone(l)
			truth.And(l[:n]...)
			truth.Or(l[:n]...)
			if !slices.Equal(l, was) {
				tt.Fatalf("And and Or of the first %d of %v leave %v", n, was, l)
			}
		}
	})
}

// P2.1: Not.
func TestNot(tt *testing.T) {
	if f.Not() != t || t.Not() != f || u.Not() != u {
		tt.Errorf("Not of False, True, Unknown: %d, %d, %d", f.Not(), t.Not(), u.Not())
	}
	for _, a := range others() {
		if n := a.Not(); n != u {
			tt.Errorf("Not of %d is %d", a, n)
		}
	}
}

// P2.2: Of each kind of value, in which fields that the kind has no use for tell nothing.
func TestOf(tt *testing.T) {
	for _, x := range []struct {
		v    api.Value
		want truth.Truth
		err  api.Errno
	}{
		{api.Value{}, u, api.OK},
		{api.Value{Kind: api.Null, N: 1}, u, api.OK},
		{api.Value{Kind: api.Null, N: -1, S: "true"}, u, api.OK},

		{api.Value{Kind: api.Bool}, f, api.OK},
		{api.Value{Kind: api.Bool, S: "true"}, f, api.OK},
		{api.Value{Kind: api.Bool, N: 1}, t, api.OK},
		{api.Value{Kind: api.Bool, N: 1, S: "false"}, t, api.OK},
		{api.Value{Kind: api.Bool, N: 2}, t, api.OK},
		{api.Value{Kind: api.Bool, N: -1}, t, api.OK},
		{api.Value{Kind: api.Bool, N: 1 << 32}, t, api.OK},
		{api.Value{Kind: api.Bool, N: most}, t, api.OK},
		{api.Value{Kind: api.Bool, N: least}, t, api.OK},

		{api.Value{Kind: api.Int}, f, api.ErrType},
		{api.Value{Kind: api.Int, N: 1}, f, api.ErrType},
		{api.Value{Kind: api.Text}, f, api.ErrType},
		{api.Value{Kind: api.Text, N: 1, S: "true"}, f, api.ErrType},
		{api.Value{Kind: 4, N: 1}, f, api.ErrType},
		{api.Value{Kind: -1, N: 1}, f, api.ErrType},
		{api.Value{Kind: -2}, f, api.ErrType},
		{api.Value{Kind: 1<<32 + 2, N: 1}, f, api.ErrType},
		{api.Value{Kind: 1 << 32}, f, api.ErrType},
		{api.Value{Kind: most}, f, api.ErrType},
		{api.Value{Kind: least}, f, api.ErrType},
	} {
		if a, err := truth.Of(x.v); a != x.want || err != x.err {
			tt.Errorf("Of(%v) is %d, %d; want %d, %d", x.v, a, err, x.want, x.err)
		}
	}
}

// P2.2: Value and Word.
func TestValueAndWord(tt *testing.T) {
	for _, x := range []struct {
		a    truth.Truth
		v    api.Value
		word string
	}{
		{f, api.Value{Kind: api.Bool, N: 0}, "false"},
		{t, api.Value{Kind: api.Bool, N: 1}, "true"},
		{u, api.Value{}, "unknown"},
	} {
		if v, word := x.a.Value(), truth.Word(x.a); v != x.v || word != x.word {
			tt.Errorf("of %d: %v, %q; want %v, %q", x.a, v, word, x.v, x.word)
		}
	}
	for _, a := range others() {
		if v, word := a.Value(), truth.Word(a); v != (api.Value{}) || word != "unknown" {
			tt.Errorf("of %d: %v, %q", a, v, word)
		}
	}
}

// P2.2: Of a truth's value is the truth.
func TestOfValue(tt *testing.T) {
	for _, a := range append([]truth.Truth{f, t, u}, others()...) {
		want := a
		if a != f && a != t {
			want = u
		}
		if b, err := truth.Of(a.Value()); b != want || err != api.OK {
			tt.Errorf("Of the value of %d is %d, %d", a, b, err)
		}
	}
}

// P2.3: Not of And is Or of the Nots, and the other way round.
func TestTurned(tt *testing.T) {
	lists(func(l []truth.Truth) {
		nots := make([]truth.Truth, 0, len(l))
		for _, a := range l {
			nots = append(nots, a.Not())
		}
		if a, b := truth.And(l...).Not(), truth.Or(nots...); a != b {
			tt.Fatalf("of %v Not of And is %d, Or of the Nots %d", l, a, b)
		}
		if a, b := truth.Or(l...).Not(), truth.And(nots...); a != b {
			tt.Fatalf("of %v Not of Or is %d, And of the Nots %d", l, a, b)
		}
	})
}

// P2.3: neither And nor Or asks for order: not when two neighbours change places, and so never.
func TestOrder(tt *testing.T) {
	lists(func(l []truth.Truth) {
		and, or := truth.And(l...), truth.Or(l...)
		for i := 1; i < len(l); i++ {
			m := slices.Clone(l)
			m[i-1], m[i] = m[i], m[i-1]
			if a, o := truth.And(m...), truth.Or(m...); a != and || o != or {
				tt.Fatalf("of %v And is %d, Or is %d; of %v %d and %d", l, and, or, m, a, o)
			}
		}
	})
}
