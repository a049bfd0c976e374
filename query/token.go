package query

import (
	"strconv"
	"strings"

	"hindsight/api"
)

// The sorts of tokens: each sign is one. Of two signs that begin alike the longer one stands first.
const (
	unequal = iota
	atMost
	atLeast
	lacks
	opening
	closing
	comma
	equal
	less
	greater
	has
	aWord
	aNumber
	aText
	theEnd // of the query's text
)

// signs are the signs as they are written, by their sorts.
var signs = [...]string{
	unequal: "!=",
	atMost:  "<=",
	atLeast: ">=",
	lacks:   "!~",
	opening: "(",
	closing: ")",
	comma:   ",",
	equal:   "=",
	less:    "<",
	greater: ">",
	has:     "~",
}

// What tokens are made of, and what stands between them.
const (
	blanks      = " \t\n"
	letters     = "abcdefghijklmnopqrstuvwxyz"
	decimal     = "0123456789"
	hexadecimal = decimal + "abcdef"
)

// fault is what is wrong with a query's text, and where.
type fault struct {
	at    int
	errno api.Errno
}

func (f fault) Error() string {
	return "no query: error " + strconv.Itoa(int(f.errno)) + " at the byte " + strconv.Itoa(f.at)
}

// token is a piece of a query's text.
type token struct {
	sort   int
	at     int    // its first byte
	behind int    // the first byte behind it
	text   string // of a word its letters, of a text what it says
	number uint64
}

// is tells whether a token is a certain word.
func (t token) is(word string) bool { return t.sort == aWord && t.text == word }

// isSign tells whether a token is a sign.
func (t token) isSign() bool { return t.sort < len(signs) }

// readToken reads the first token that begins at a place or behind it.
func readToken(text string, from int) (token, error) {
	at := from + len(prefix(text[from:], blanks))
	rest := text[at:]
	t := token{at: at}
	size, wrong := 0, api.OK
	switch {
	case rest == "":
		t.sort = theEnd
	case prefix(rest, letters) != "":
		t.sort, t.text = aWord, prefix(rest, letters)
		size = len(t.text)
	case prefix(rest, decimal) != "":
		t.sort = aNumber
		t.number, size, wrong = readNumber(rest)
	case rest[0] == '"':
		t.sort = aText
		t.text, size, wrong = readText(rest)
	default:
		t.sort, size, wrong = readSign(rest)
	}
	if wrong != api.OK {
		return token{}, fault{at, wrong}
	}
	t.behind = at + size
	return t, nil
}

// prefix is what a string begins with, as far as it is made of a set's bytes.
func prefix(s, set string) string {
	return s[:len(s)-len(strings.TrimLeft(s, set))]
}

// readNumber reads the number with which a string begins, and of how many bytes it is.
func readNumber(s string) (uint64, int, api.Errno) {
	mark, base, set := "", 10, decimal
	if strings.HasPrefix(s, "0x") {
		mark, base, set = "0x", 16, hexadecimal
	}
	digits := prefix(s[len(mark):], set)
	if digits == "" {
		return 0, 0, api.ErrSign
	}
	n, err := strconv.ParseUint(digits, base, 64)
	if err != nil {
		return 0, 0, api.ErrOver
	}
	return n, len(mark) + len(digits), api.OK
}

// readText reads the text with which a string begins, and of how many bytes it is.
func readText(s string) (string, int, api.Errno) {
	var said []byte
	for at := 1; at < len(s); {
		switch s[at] {
		case '"':
			return string(said), at + 1, api.OK
		case '\n':
			return "", 0, api.ErrSign
		case '\\':
			sign, size := readEscape(s[at:])
			if size == 0 {
				return "", 0, api.ErrSign
			}
			said = append(said, sign)
			at += size
		default:
			said = append(said, s[at])
			at++
		}
	}
	return "", 0, api.ErrSign
}

// readEscape reads the byte for which the backslash stands with which a string begins, and of how many bytes
// this is: 0, if it stands for nothing.
func readEscape(s string) (byte, int) {
	switch {
	case strings.HasPrefix(s, `\"`):
		return '"', 2
	case strings.HasPrefix(s, `\\`):
		return '\\', 2
	case strings.HasPrefix(s, `\n`):
		return '\n', 2
	case strings.HasPrefix(s, `\t`):
		return '\t', 2
	case strings.HasPrefix(s, `\x`) && len(s) >= 4:
		if digits := prefix(s[2:4], hexadecimal); len(digits) == 2 {
			n, _ := strconv.ParseUint(digits, 16, 8)
			return byte(n), 4
		}
	}
	return 0, 0
}

// readSign reads the sign with which a string begins, and of how many bytes it is.
func readSign(s string) (int, int, api.Errno) {
	for sort, sign := range signs {
		if strings.HasPrefix(s, sign) {
			return sort, len(sign), api.OK
		}
	}
	return 0, 0, api.ErrSign
}
