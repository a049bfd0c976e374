package query

import (
	"slices"

	"hindsight/api"
	"hindsight/event"
)

// parser reads a query's text.
type parser struct {
	text string
	at   int // behind the last token that was taken
	open int // brackets and nots that are not at their end
}

// look reads the next token, which stays the next one.
func (p *parser) look() (token, error) { return readToken(p.text, p.at) }

// take reads the next token and goes on behind it.
func (p *parser) take() (token, error) {
	t, err := p.look()
	if err != nil {
		return token{}, err
	}
	p.at = t.behind
	return t, nil
}

// need takes the next token, which must be of a sort: else something is wrong.
func (p *parser) need(sort int, wrong api.Errno) (token, error) {
	t, err := p.take()
	if err != nil {
		return token{}, err
	}
	if t.sort != sort {
		return token{}, fault{t.at, wrong}
	}
	return t, nil
}

// pass takes the next token if it is a certain word. One that can't be read stays, as another one does: who
// asks for it next has the fault.
func (p *parser) pass(word string) bool {
	t, err := p.look()
	if err != nil || !t.is(word) {
		return false
	}
	p.at = t.behind
	return true
}

// query reads a whole query.
func (p *parser) query() (node, error) { return p.ended(theEnd, api.ErrTrail) }

// ended reads an or and the token that ends it.
func (p *parser) ended(end int, wrong api.Errno) (node, error) {
	n, err := p.or()
	if err != nil {
		return nil, err
	}
	if _, err := p.need(end, wrong); err != nil {
		return nil, err
	}
	return n, nil
}

// or reads ands with an or between each two.
func (p *parser) or() (node, error) { return p.joint("or", p.and) }

// and reads what may be denied, with an and between each two.
func (p *parser) and() (node, error) { return p.joint("and", p.not) }

// joint reads parts with a word between each two, or the one part that there is. The parts of one in brackets
// that has the same word stand in its place.
func (p *parser) joint(word string, readPart func() (node, error)) (node, error) {
	all := joint{word: word}
	for more := true; more; more = p.pass(word) {
		part, err := readPart()
		if err != nil {
			return nil, err
		}
		if inner, is := part.(joint); is && inner.word == word {
			all.parts = append(all.parts, inner.parts...)
		} else {
			all.parts = append(all.parts, part)
		}
	}
	if len(all.parts) == 1 {
		return all.parts[0], nil
	}
	return all, nil
}

// not reads a not and what it denies, an or in brackets, or an atom.
func (p *parser) not() (node, error) {
	t, err := p.take()
	if err != nil {
		return nil, err
	}
	denies := t.is("not")
	if !denies && t.sort != opening {
		return p.atom(t)
	}
	if p.open == api.MaxNest {
		return nil, fault{t.at, api.ErrNest}
	}
	p.open++
	defer func() { p.open-- }()
	if !denies {
		return p.ended(closing, api.ErrWord)
	}
	denied, err := p.not()
	if err != nil {
		return nil, err
	}
	return negation{denied}, nil
}

// atom reads an atom of which the first token was taken.
func (p *parser) atom(first token) (node, error) {
	for c, name := range classes {
		if first.is(name) {
			return class(c), nil
		}
	}
	for field, name := range fields {
		if first.is(name) {
			return p.test(field)
		}
	}
	return nil, fault{first.at, api.ErrWord}
}

// test reads what stands behind a field.
func (p *parser) test(field int) (node, error) {
	switch field {
	case fieldKind:
		return p.kindTest()
	case fieldLeaf, fieldRoot, fieldSite:
		return p.textTest(field)
	}
	return p.numberTest(field)
}

func (p *parser) numberTest(field int) (node, error) {
	sign, err := p.sign(equal, unequal, less, atMost, greater, atLeast)
	if err != nil {
		return nil, err
	}
	t, err := p.need(aNumber, api.ErrType)
	if err != nil {
		return nil, err
	}
	return numberTest{field, sign, t.number}, nil
}

func (p *parser) textTest(field int) (node, error) {
	sign, err := p.sign(equal, unequal, has, lacks)
	if err != nil {
		return nil, err
	}
	t, err := p.need(aText, api.ErrType)
	if err != nil {
		return nil, err
	}
	return textTest{field, sign, t.text}, nil
}

// kindTest reads a test for one kind, or for several ones.
func (p *parser) kindTest() (node, error) {
	if p.pass("in") {
		return p.kindList()
	}
	sign, err := p.sign(equal, unequal)
	if err != nil {
		return nil, err
	}
	kind, err := p.kind()
	if err != nil {
		return nil, err
	}
	return kindTest{sign, kind}, nil
}

// kindList reads kinds in brackets.
func (p *parser) kindList() (node, error) {
	if _, err := p.need(opening, api.ErrWord); err != nil {
		return nil, err
	}
	var kinds kindList
	for {
		kind, err := p.kind()
		if err != nil {
			return nil, err
		}
		kinds = append(kinds, kind)
		t, err := p.take()
		if err != nil {
			return nil, err
		}
		if t.sort == closing {
			return kinds, nil
		}
		if t.sort != comma {
			return nil, fault{t.at, api.ErrWord}
		}
	}
}

// sign reads the sign behind a field, of those that the field can have.
func (p *parser) sign(can ...int) (int, error) {
	t, err := p.take()
	switch {
	case err != nil:
		return 0, err
	case !t.isSign():
		return 0, fault{t.at, api.ErrWord}
	case !slices.Contains(can, t.sort):
		return 0, fault{t.at, api.ErrType}
	}
	return t.sort, nil
}

// kind reads the name of a kind.
func (p *parser) kind() (int, error) {
	t, err := p.need(aWord, api.ErrWord)
	if err != nil {
		return 0, err
	}
	kind, wrong := event.Kind(t.text)
	if wrong != api.OK {
		return 0, fault{t.at, api.ErrWord}
	}
	return kind, nil
}
