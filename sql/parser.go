package sql

import "relstore/api"

// maxOpen: within how many that are open a parenthesis, a NOT, a minus or a CASE may stand.
const maxOpen = 150

// parser of a script.
type parser struct {
	scanner scanner
	next    token // it is read, but not taken
	open    int   // how many of those that maxOpen counts
}

func newParser(text string) *parser {
	p := &parser{scanner: scanner{source: text}}
	p.next = p.scanner.read()
	return p
}

// take the next token; and read the one behind it.
func (p *parser) take() token {
	t := p.next
	p.next = p.scanner.read()
	return t
}

// wrong: with the next token the tokens so far are no beginning of any script.
func (p *parser) wrong() fault { return fault{api.ErrSyntax, p.next.at} }

// is: is the next token this keyword or sign?
func (p *parser) is(word string) bool { return p.next.kind == aWord && p.next.text == word }

// takes a keyword or sign, if it is the next token.
func (p *parser) takes(word string) bool {
	if !p.is(word) {
		return false
	}
	p.take()
	return true
}

// must take keywords or signs, one behind the other.
func (p *parser) must(words ...string) {
	for _, w := range words {
		if !p.takes(w) {
			panic(p.wrong())
		}
	}
}

// takeKind: a token of a kind must be the next one.
func (p *parser) takeKind(kind int) token {
	if p.next.kind != kind {
		panic(p.wrong())
	}
	return p.take()
}

func (p *parser) name() string { return p.takeKind(aName).text }

func (p *parser) names() []string { return list(p, p.name) }

func (p *parser) number() int64 { return p.takeKind(aNumber).number }

// opens something, with the next token, which must be this one. What is opened must be shut.
func (p *parser) opens(word string) {
	if !p.is(word) {
		panic(p.wrong())
	}
	if p.open == maxOpen {
		panic(fault{api.ErrLarge, p.next.at})
	}
	p.open++
	p.take()
}

// shut what was opened last.
func (p *parser) shut() { p.open-- }

// list: one or more, with commas between.
func list[T any](p *parser, read func() T) []T {
	l := []T{read()}
	for p.takes(",") {
		l = append(l, read())
	}
	return l
}

// enclosed in parentheses.
func enclosed[T any](p *parser, read func() T) T {
	p.opens("(")
	x := read()
	p.must(")")
	p.shut()
	return x
}
