package query

import (
	"cmp"
	"slices"
	"strings"

	"hindsight/api"
	"hindsight/event"
)

// node is a part of a query's tree.
type node interface {
	// chooses tells whether an event at a place is chosen.
	chooses(e api.Event, at int) bool
}

// joint is two parts or more with the word "and", or the word "or", between each two. None of the parts is a
// joint with the same word.
type joint struct {
	word  string
	parts []node
}

func (j joint) chooses(e api.Event, at int) bool {
	enough := j.word == "or" // one part of an or is enough if it chooses, one of an and if it does not
	for _, part := range j.parts {
		if part.chooses(e, at) == enough {
			return enough
		}
	}
	return !enough
}

// negation is a not, and what it denies.
type negation struct{ denied node }

func (n negation) chooses(e api.Event, at int) bool { return !n.denied.chooses(e, at) }

// class is an atom of one word alone.
type class int

const (
	everything = iota
	nothing
	accesses
	syncs
)

// classes are the classes as they are written.
var classes = [...]string{everything: "all", nothing: "none", accesses: "access", syncs: "sync"}

func (c class) chooses(e api.Event, _ int) bool {
	switch c {
	case everything:
		return true
	case accesses:
		return e.Kind == api.Read || e.Kind == api.Write
	case syncs:
		return event.Sync(e.Kind)
	}
	return false
}

// The fields.
const (
	fieldG = iota
	fieldObj
	fieldArg
	fieldAt
	fieldDepth
	fieldLeaf
	fieldRoot
	fieldSite
	fieldKind
)

// fields are the fields as they are written.
var fields = [...]string{
	fieldG:     "g",
	fieldObj:   "obj",
	fieldArg:   "arg",
	fieldAt:    "at",
	fieldDepth: "depth",
	fieldLeaf:  "leaf",
	fieldRoot:  "root",
	fieldSite:  "site",
	fieldKind:  "kind",
}

// numberTest compares a field with a number.
type numberTest struct {
	field, sign int
	number      uint64
}

func (n numberTest) chooses(e api.Event, at int) bool {
	order := n.order(e, at)
	switch n.sign {
	case equal:
		return order == 0
	case unequal:
		return order != 0
	case less:
		return order < 0
	case atMost:
		return order <= 0
	case greater:
		return order > 0
	}
	return order >= 0
}

// order is below 0 if the field is less than the number, above 0 if it is greater, and else 0.
func (n numberTest) order(e api.Event, at int) int {
	switch n.field {
	case fieldObj:
		return cmp.Compare(e.Obj, n.number)
	case fieldArg:
		return cmp.Compare(e.Arg, n.number)
	case fieldG:
		return compare(e.G, n.number)
	case fieldAt:
		return compare(at, n.number)
	}
	return compare(len(e.Stack), n.number)
}

// compare is cmp.Compare of two numbers of which no one type holds both.
func compare(a int, b uint64) int {
	if a < 0 {
		return -1
	}
	return cmp.Compare(uint64(a), b)
}

// kindTest asks whether an event is of a kind, or whether it is not.
type kindTest struct{ sign, kind int }

func (k kindTest) chooses(e api.Event, _ int) bool { return (e.Kind == k.kind) == (k.sign == equal) }

// kindList asks whether an event is of one of some kinds.
type kindList []int

func (l kindList) chooses(e api.Event, _ int) bool { return slices.Contains(l, e.Kind) }

// textTest asks for a text among some frames.
type textTest struct {
	field, sign int
	text        string
}

func (x textTest) chooses(e api.Event, _ int) bool {
	fits := x.frameIs
	if x.sign == has || x.sign == lacks {
		fits = x.frameHas
	}
	asked := x.sign == equal || x.sign == has
	return slices.ContainsFunc(x.frames(e.Stack), fits) == asked
}

func (x textTest) frameIs(frame string) bool { return frame == x.text }

func (x textTest) frameHas(frame string) bool { return strings.Contains(frame, x.text) }

// frames are those of a stack that the field means. Where there is none, leaf and root are an empty one.
func (x textTest) frames(stack []string) []string {
	switch {
	case x.field == fieldSite:
		return stack
	case len(stack) == 0:
		return []string{""}
	case x.field == fieldLeaf:
		return stack[:1]
	}
	return stack[len(stack)-1:]
}
