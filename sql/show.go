package sql

import (
	"strconv"
	"strings"

	"relstore/api"
)

// glue pieces of a text, those that are empty left out, with blanks just where tokens would run together.
func glue(pieces ...string) string {
	var b []byte
	for _, s := range pieces {
		if len(b) > 0 && s != "" && runTogether(b[len(b)-1], s[0]) {
			b = append(b, ' ')
		}
		b = append(b, s...)
	}
	return string(b)
}

// runTogether: would two tokens, of which one ends and one begins so, be read as one, or as a comment?
func runTogether(end, begin byte) bool {
	return isWordByte(end) && isWordByte(begin) || end == begin && (end == '-' || end == '"')
}

// inParens: pieces in parentheses.
func inParens(pieces ...string) string { return "(" + glue(pieces...) + ")" }

// commas between things.
func commas[T any](l []T, show func(x T) string) string {
	var shown []string
	for _, x := range l {
		shown = append(shown, show(x))
	}
	return strings.Join(shown, ",")
}

// showStatement of a kind that Parse gives.
func showStatement(s api.Stmt) string {
	switch s.Kind {
	case api.Query:
		return showQuery(s.Query[0])
	case api.Insert:
		return showInsert(s)
	case api.Update:
		return glue("update", showName(s.Table), "set", commas(s.Sets, showSet), showClause("where", s.Where))
	case api.Delete:
		return glue("delete from", showName(s.Table), showClause("where", s.Where))
	case api.CreateTable:
		return showTable(s)
	case api.CreateIndex:
		return glue("create", wordIf(s.Unique, "unique"), "index", showName(s.Name), "on", showName(s.Table), showNames(s.Names))
	case api.DropTable:
		return glue("drop table", showName(s.Table))
	case api.DropIndex:
		return glue("drop index", showName(s.Name))
	}
	return showControl(s)
}

// showControl: a statement that says what becomes of others.
func showControl(s api.Stmt) string {
	switch s.Kind {
	case api.Begin:
		return "begin"
	case api.Commit:
		return "commit"
	case api.Rollback:
		if s.Name == "" {
			return "rollback"
		}
		return glue("rollback to", showName(s.Name))
	case api.Savepoint:
		return glue("savepoint", showName(s.Name))
	case api.Release:
		return glue("release", showName(s.Name))
	case api.Checkpoint:
		return "checkpoint"
	}
	return ""
}

func showInsert(s api.Stmt) string {
	names, from := "", ""
	if len(s.Names) > 0 {
		names = showNames(s.Names)
	}
	if len(s.Query) > 0 {
		from = showQuery(s.Query[0])
	} else {
		from = glue("values", commas(s.Rows, showRow))
	}
	return glue("insert into", showName(s.Table), names, from)
}

func showRow(l []api.Expr) string { return inParens(showExprs(l)) }

func showSet(s api.Set) string { return glue(showName(s.Column), "=", showExpr(s.Expr)) }

// showClause: a word and an expression; or nothing.
func showClause(word string, l []api.Expr) string {
	if len(l) == 0 {
		return ""
	}
	return glue(word, showExpr(l[0]))
}

// wordIf something is so.
func wordIf(is bool, word string) string {
	if is {
		return word
	}
	return ""
}

// showName: as a word, if that is read as this name; else in quotes.
func showName(name string) string {
	if isPlain(name) {
		return name
	}
	return quotedBy(`"`, name)
}

// isPlain: is a name read as it is without quotes?
func isPlain(name string) bool {
	for i := range len(name) {
		if c := name[i]; !isWordByte(c) || c >= 'A' && c <= 'Z' {
			return false
		}
	}
	return name != "" && isLetter(name[0]) && !isKeyword(name)
}

// quotedBy a quote, of which two stand for one.
func quotedBy(quote, s string) string {
	return quote + strings.ReplaceAll(s, quote, quote+quote) + quote
}

func showNames(l []string) string { return inParens(commas(l, showName)) }

func showValue(v api.Value) string {
	switch v.Kind {
	case api.Bool:
		if v.N == 0 {
			return "false"
		}
		return "true"
	case api.Int:
		return strconv.FormatInt(v.N, 10)
	case api.Text:
		return quotedBy("'", v.S)
	}
	return "null"
}
