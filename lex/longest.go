package lex

import "registrar/api"

// A Name has at most api.MaxName bytes; these are the bounds of the others.
const (
	maxKey    = 16
	maxNumber = 19
	maxSign   = 2
)

// A Param is its mark and one digit.
const (
	paramMark = '$'
	paramSize = 2
)

// quote stands ahead of a quoted text and behind it, and twice for each one within.
const quote = '\''

// The bytes that a quoted text may have.
const (
	firstPlain = 32
	lastPlain  = 126
)

// signs are all signs.
var signs = [...]string{"(", ")", ",", "=", "<>", "<", "<=", ">", ">=", "+", "-", "*", "/", "%", "||"}

// longest is the kind and the size of the longest token with which a text begins; none and 0, where there is no such token.
func longest(s string) (kind, size int) {
	switch {
	case s == "":
		return End, 0
	case isSmall(s[0]):
		return Name, run(s, api.MaxName, inName)
	case isCapital(s[0]):
		return Key, run(s, maxKey, inKey)
	case s[0] == '0':
		return Number, 1
	case isDigit(s[0]):
		return Number, run(s, maxNumber, isDigit)
	case s[0] == quote:
		return orNone(Quoted, quotedSize(s))
	case s[0] == paramMark:
		return orNone(Param, paramSizeOf(s))
	}
	return orNone(Sign, signSize(s))
}

// orNone is a kind and a size, or no kind, if the size is that of nothing.
func orNone(kind, size int) (int, int) {
	if size == 0 {
		return none, 0
	}
	return kind, size
}

// run is how many bytes that are asked for a text begins with, and at most so many.
func run(s string, most int, asked func(c byte) bool) int {
	size := 0
	for size < min(len(s), most) && asked(s[size]) {
		size++
	}
	return size
}

// gap is how many bytes stand ahead of the next token.
func gap(s string) int {
	return run(s, len(s), isBlank)
}

// runsOn asks whether what stands behind a token of a kind can't be told from a part of it.
func runsOn(kind int, behind string) bool {
	switch kind {
	case Name, Key, Number, Param:
		return behind != "" && (inName(behind[0]) || isCapital(behind[0]) || behind[0] == paramMark)
	}
	return false
}

// quotedSize is how many bytes the quoted text has that a quote begins; 0, if it does not end.
func quotedSize(s string) int {
	for at := 1; at < len(s); at++ {
		switch {
		case s[at] < firstPlain || s[at] > lastPlain:
			return 0
		case s[at] != quote:
			// It stands for itself, whatever follows it.
		case at+1 == len(s) || s[at+1] != quote:
			return at + 1
		default:
			// The second one of two quotes is passed by, lest it be taken for the end.
			at++
		}
	}
	return 0
}

// paramSizeOf is how many bytes the Param has that its mark begins; 0, if there is no parameter of that number.
func paramSizeOf(s string) int {
	if len(s) < paramSize || s[1] < '1' || s[1] > '0'+api.MaxParams {
		return 0
	}
	return paramSize
}

// signSize is how many bytes the sign has with which a text begins; 0, if it begins with none. Signs of two bytes are tried first, since some of one byte begin them.
func signSize(s string) int {
	size := min(len(s), maxSign)
sizes:
	for ; size > 0; size-- {
		for _, sign := range signs {
			if s[:size] == sign {
				break sizes
			}
		}
	}
	return size
}

// isBlank asks for what stands between tokens: a blank, or a line's end.
func isBlank(c byte) bool {
	return c == ' ' || c == '\n'
}

// isSmall asks for a small letter.
func isSmall(c byte) bool {
	return c >= 'a' && c <= 'z'
}

// isCapital asks for a capital letter.
func isCapital(c byte) bool {
	return c >= 'A' && c <= 'Z'
}

// isDigit asks for a digit.
func isDigit(c byte) bool {
	return c >= '0' && c <= '9'
}

// inName asks for what a Name may go on with.
func inName(c byte) bool {
	return isSmall(c) || isDigit(c) || c == '_'
}

// inKey asks for what a Key may go on with.
func inKey(c byte) bool {
	return isCapital(c) || c == '_'
}
