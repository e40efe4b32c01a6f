package sql

import (
	"strconv"
	"strings"

	"relstore/api"
)

// The kinds of tokens.
const (
	anEnd = iota
	aWord // a keyword or a sign
	aName // any other word, or what stands between two "
	aNumber
	aText
)

// token of a text.
type token struct {
	kind   int
	text   string // what a word, a name or a text says
	number int64
	at     int // the place of its first byte
}

// signs, the longer ones first, so that the longest one is found.
var signs = [...]string{"<>", "!=", "<=", ">=", "||", "(", ")", ",", ".", ";", "*", "+", "-", "/", "%", "=", "<", ">"}

// scanner of a text.
type scanner struct {
	source string
	at     int
}

// read the next token, or the end.
func (s *scanner) read() token {
	s.skip()
	if s.at == len(s.source) {
		return token{kind: anEnd, at: s.at}
	}
	switch c := s.source[s.at]; {
	case isLetter(c):
		return s.word()
	case isDigit(c):
		return s.number()
	case c == '\'':
		return s.quoted(aText)
	case c == '"':
		return s.quoted(aName)
	}
	return s.sign()
}

// skip blanks and comments.
func (s *scanner) skip() {
	for s.at < len(s.source) {
		rest := s.source[s.at:]
		switch {
		case isBlank(rest[0]):
			s.at++
		case strings.HasPrefix(rest, "--"):
			comment, _, _ := strings.Cut(rest, "\n")
			s.at += len(comment)
		case strings.HasPrefix(rest, "/*"):
			comment, _, ends := strings.Cut(rest[len("/*"):], "*/")
			if !ends {
				panic(s.none())
			}
			s.at += len("/*") + len(comment) + len("*/")
		default:
			return
		}
	}
}

// none: no token stands here.
func (s *scanner) none() fault { return fault{api.ErrSyntax, s.at} }

// word: a keyword or a name.
func (s *scanner) word() token {
	size := s.run(isWordByte)
	// A copy, so that a name does not keep the whole text.
	said := strings.ToLower(strings.Clone(s.source[s.at : s.at+size]))
	if isKeyword(said) {
		return s.token(aWord, said, size)
	}
	return s.token(aName, said, size)
}

// number of 64 bits.
func (s *scanner) number() token {
	size := s.run(isDigit)
	n, err := strconv.ParseInt(s.source[s.at:s.at+size], 10, 64)
	if err != nil || s.run(isWordByte) > size {
		panic(s.none())
	}
	t := s.token(aNumber, "", size)
	t.number = n
	return t
}

// run: how many bytes from here on are of a kind.
func (s *scanner) run(is func(c byte) bool) int {
	n := 0
	for s.at+n < len(s.source) && is(s.source[s.at+n]) {
		n++
	}
	return n
}

// quoted: a text, or a name, between two of the byte that stands here; two of them within stand for one.
func (s *scanner) quoted(kind int) token {
	quote := s.source[s.at]
	var said []byte
	for i := s.at + 1; i < len(s.source); i++ {
		if s.source[i] == quote {
			if i+1 == len(s.source) || s.source[i+1] != quote {
				return s.quotedAs(kind, string(said), i+1-s.at)
			}
			i++
		}
		said = append(said, s.source[i])
	}
	panic(s.none())
}

// quotedAs a text, or a name, which must say something.
func (s *scanner) quotedAs(kind int, said string, size int) token {
	if kind == aName && said == "" {
		panic(s.none())
	}
	return s.token(kind, said, size)
}

// sign that stands here.
func (s *scanner) sign() token {
	for _, sign := range signs {
		if strings.HasPrefix(s.source[s.at:], sign) {
			if sign == "!=" {
				return s.token(aWord, "<>", len(sign))
			}
			return s.token(aWord, sign, len(sign))
		}
	}
	panic(s.none())
}

// token of so many bytes, behind which the next one is read.
func (s *scanner) token(kind int, said string, size int) token {
	if len(said) > api.MaxString {
		panic(fault{api.ErrLarge, s.at})
	}
	t := token{kind: kind, text: said, at: s.at}
	s.at += size
	return t
}

func isBlank(c byte) bool { return c == ' ' || c == '\t' || c == '\n' || c == '\r' }

func isLetter(c byte) bool { return c >= 'a' && c <= 'z' || c >= 'A' && c <= 'Z' || c == '_' }

func isDigit(c byte) bool { return c >= '0' && c <= '9' }

func isWordByte(c byte) bool { return isLetter(c) || isDigit(c) }

// isKeyword: is a word of small letters no name?
func isKeyword(word string) bool {
	switch word {
	case "all", "and", "as", "asc", "begin", "between", "boolean", "by",
		"case", "cast", "check", "checkpoint", "commit", "create", "cross",
		"default", "delete", "desc", "distinct", "drop",
		"else", "end", "except", "exists", "false", "from", "group", "having",
		"in", "index", "inner", "insert", "integer", "intersect", "into", "is",
		"join", "key", "left", "like", "limit", "not", "null",
		"offset", "on", "or", "order", "outer", "primary", "release", "rollback",
		"savepoint", "select", "set", "table", "text", "then", "to", "true",
		"union", "unique", "update", "values", "when", "where":
		return true
	}
	return false
}
