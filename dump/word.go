package dump

import (
	"strconv"
	"strings"
	"unicode/utf8"
)

// appendWord puts a string behind b as a word.
func appendWord(b []byte, s string) []byte {
	b = append(b, '"')
	for at, sign := range s {
		switch {
		case sign == '\\' || sign == '"':
			b = append(b, '\\', byte(sign))
		case sign == '\n':
			b = append(b, `\n`...)
		case sign == '\r':
			b = append(b, `\r`...)
		case sign == '\t':
			b = append(b, `\t`...)
		case stray(sign, s[at:]):
			b = appendDigits(b, s[at:at+1])
		case shown(sign):
			b = utf8.AppendRune(b, sign)
		default:
			b = appendDigits(b, string(sign))
		}
	}
	return append(b, '"')
}

// stray tells whether the first byte of a string, from which a range took a sign, stands in no well-formed
// sequence. The range tells this by a sign that may also stand there itself.
func stray(sign rune, s string) bool {
	return sign == utf8.RuneError && !strings.HasPrefix(s, string(utf8.RuneError))
}

// shown tells whether a sign stands for itself in a word.
func shown(sign rune) bool {
	return sign >= ' ' && sign <= '~' || sign >= 0xA0
}

// appendDigits puts bytes behind b, each as two digits.
func appendDigits(b []byte, raw string) []byte {
	const digits = "0123456789abcdef"
	for k := range len(raw) {
		b = append(b, '\\', 'x', digits[raw[k]>>4], digits[raw[k]&15])
	}
	return b
}

// readWord reads a word. The language knows more ways to write a string than a word has, so what it reads is
// held against the one way.
func readWord(word string) (string, error) {
	text, err := strconv.Unquote(word)
	if err != nil || Quote(text) != word {
		return "", errLine
	}
	return strings.Clone(text), nil // else it may be a piece of the word
}
