package eval

import (
	"registrar/api"
	"registrar/truth"
)

// at is the value at a place.
func at(values []api.Value, place int) (api.Value, api.Errno) {
	if place >= len(values) {
		return api.Value{}, api.ErrCount
	}
	return values[place], api.OK
}

// whole is a number as an Int.
func whole(n int) api.Value {
	return api.Value{Kind: api.Int, N: n}
}

// truthOf is the truth of what is known.
func truthOf(so bool) truth.Truth {
	if so {
		return truth.True
	}
	return truth.False
}

// told is a truth as a value, where there is no error.
func told(t truth.Truth, err api.Errno) (api.Value, api.Errno) {
	if err != api.OK {
		return api.Value{}, err
	}
	return t.Value(), api.OK
}

// changed is the Int that a rule makes of an Int; a Null of a Null.
func changed(v api.Value, rule func(n int) (int, api.Errno)) (api.Value, api.Errno) {
	switch v.Kind {
	case api.Null:
		return api.Value{}, api.OK
	case api.Int:
		n, err := rule(v.N)
		if err != api.OK {
			return api.Value{}, err
		}
		return whole(n), api.OK
	}
	return api.Value{}, api.ErrType
}

// length is how many bytes a Text has; a Null of a Null.
func length(v api.Value) (api.Value, api.Errno) {
	switch v.Kind {
	case api.Null:
		return api.Value{}, api.OK
	case api.Text:
		return whole(len(v.S)), api.OK
	}
	return api.Value{}, api.ErrType
}
