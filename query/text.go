package query

import (
	"strconv"

	"hindsight/event"
)

// appendNode puts a node's canonical text behind b.
func appendNode(b []byte, n node) []byte {
	switch x := n.(type) {
	case joint:
		return appendJoint(b, x)
	case negation:
		_, brackets := x.denied.(joint)
		return appendPart(append(b, "not "...), x.denied, brackets)
	case class:
		return append(b, classes[x]...)
	case numberTest:
		return strconv.AppendUint(appendSign(b, x.field, x.sign), x.number, 10)
	case kindTest:
		return appendKind(appendSign(b, fieldKind, x.sign), x.kind)
	case kindList:
		return appendKindList(b, x)
	case textTest:
		return appendText(appendSign(b, x.field, x.sign), x.text)
	}
	return b
}

// appendJoint puts a joint's parts behind b. A joint among those of an and is an or, and one among those of
// an or is an and, which binds closer and needs no brackets.
func appendJoint(b []byte, j joint) []byte {
	for k, part := range j.parts {
		if k > 0 {
			b = append(b, ' ')
			b = append(b, j.word...)
			b = append(b, ' ')
		}
		_, brackets := part.(joint)
		b = appendPart(b, part, brackets && j.word == "and")
	}
	return b
}

// appendPart puts a node's text behind b, in brackets or not.
func appendPart(b []byte, n node, brackets bool) []byte {
	if !brackets {
		return appendNode(b, n)
	}
	return append(appendNode(append(b, '('), n), ')')
}

// appendSign puts a field and a sign behind b, and the blank behind them.
func appendSign(b []byte, field, sign int) []byte {
	b = append(b, fields[field]...)
	b = append(b, ' ')
	b = append(b, signs[sign]...)
	return append(b, ' ')
}

// appendKindList puts a list of kinds behind b.
func appendKindList(b []byte, kinds kindList) []byte {
	b = append(b, fields[fieldKind]...)
	b = append(b, " in ("...)
	for k, of := range kinds {
		if k > 0 {
			b = append(b, ", "...)
		}
		b = appendKind(b, of)
	}
	return append(b, ')')
}

// appendKind puts a kind's name behind b.
func appendKind(b []byte, kind int) []byte {
	name, _ := event.Name(kind)
	return append(b, name...)
}

// appendText puts a text behind b as a token.
func appendText(b []byte, text string) []byte {
	b = append(b, '"')
	for k := range len(text) {
		switch c := text[k]; {
		case c == '"' || c == '\\':
			b = append(b, '\\', c)
		case c == '\n':
			b = append(b, `\n`...)
		case c == '\t':
			b = append(b, `\t`...)
		case c >= ' ' && c <= '~':
			b = append(b, c)
		default:
			b = append(b, '\\', 'x', hexadecimal[c>>4], hexadecimal[c&15])
		}
	}
	return append(b, '"')
}
