package sql

import (
	"slices"
	"strings"

	"relstore/api"
)

// showTable: its columns, and rules between and behind them. Keys are read in the order in which they stand, and so are checks.
func showTable(s api.Stmt) string {
	homes := homesOfKeys(s)
	checked := homeOfChecks(s, homes)
	var parts []string
	next := 0 // of the keys
	for i, c := range s.Columns {
		if first := slices.Index(homes, i); first >= 0 {
			parts = append(parts, showRules(s.Keys[next:first])...)
			next = first
		}
		pieces := []string{showDefinition(c, "")}
		if i == checked {
			pieces[0] = showDefinition(c, showChecks(s.Checks, ""))
		}
		for ; next < len(homes) && homes[next] == i; next++ {
			pieces = append(pieces, keyWord(s.Keys[next]))
		}
		parts = append(parts, glue(pieces...))
	}
	parts = append(parts, showRules(s.Keys[next:])...)
	if len(s.Columns) == 0 && len(s.Checks) > 0 {
		parts = append(parts, showChecks(s.Checks, ","))
	}
	return glue("create table", showName(s.Table), inParens(strings.Join(parts, ",")))
}

// showDefinition of a column. What ends in no letter or digit stands first: no blank is needed behind it.
func showDefinition(c api.ColumnDef, checks string) string {
	text, other := "", ""
	for _, v := range c.Default {
		if v.Kind == api.Text {
			text = glue("default", showValue(v))
		} else {
			other = glue("default", showValue(v))
		}
	}
	return glue(showName(c.Name), kindWord(c.Kind), text, checks, other, wordIf(c.NotNull, "not null"))
}

func showChecks(l []api.Expr, between string) string {
	var shown []string
	for _, e := range l {
		shown = append(shown, "check"+inParens(showExpr(e)))
	}
	return strings.Join(shown, between)
}

// showRules: keys that do not stand in the definition of a column.
func showRules(l []api.Key) []string {
	var shown []string
	for _, k := range l {
		shown = append(shown, keyWord(k)+showNames(k.Columns))
	}
	return shown
}

func keyWord(k api.Key) string {
	if k.Primary {
		return "primary key"
	}
	return "unique"
}

// homeOfChecks: the column in whose definition all checks stand. Where something else does so, too, they need no further blank.
func homeOfChecks(s api.Stmt, homes []int) int {
	for i, c := range s.Columns {
		if c.NotNull || len(c.Default) > 0 || slices.Contains(homes, i) {
			return i
		}
	}
	return len(s.Columns) - 1
}

// link of a chain: a key that stands in the definition of its column.
type link struct {
	column int // -1: there is no such column
	saved  int // how many bytes the chain saves, up to this link
	ahead  int // the key that is the link ahead of it; -1: none
}

// homesOfKeys: in which column's definition each key stands; -1: in none, but as a rule, which is longer. As the keys must stay in order, these columns rise, and no rule stands between two keys of one column: of all such chains of keys it is one that saves the most bytes.
func homesOfKeys(s api.Stmt) []int {
	homes := slices.Repeat([]int{-1}, len(s.Keys))
	chain := make([]link, len(s.Keys))
	last, most := -1, 0
	for i, k := range s.Keys {
		chain[i] = linked(s, k, chain[:i])
		if chain[i].saved > most {
			last, most = i, chain[i].saved
		}
	}
	for i := last; i >= 0; i = chain[i].ahead {
		homes[i] = chain[i].column
	}
	return homes
}

// linked: a key as the last link of the best chain, behind one of the keys ahead of it.
func linked(s api.Stmt, k api.Key, ahead []link) link {
	column := columnOfKey(s, k)
	if column < 0 {
		return link{column: -1}
	}
	// A rule has a comma and the name more; a key in a definition a blank, unless it is the first one behind a text.
	further := len(",") + len(showNames(k.Columns)) - len(" ")
	first := further
	if d := showDefinition(s.Columns[column], ""); !isWordByte(d[len(d)-1]) {
		first++
	}
	best := link{column, first, -1}
	for i, l := range ahead {
		saved := 0
		switch {
		case l.column >= 0 && l.column < column:
			saved = l.saved + first
		case l.column == column && i == len(ahead)-1:
			saved = l.saved + further
		}
		if saved > best.saved {
			best = link{column, saved, i}
		}
	}
	return best
}

// columnOfKey: of a key that has just one; -1: it has not, or the table has none of its name.
func columnOfKey(s api.Stmt, k api.Key) int {
	if len(k.Columns) != 1 {
		return -1
	}
	return slices.IndexFunc(s.Columns, func(c api.ColumnDef) bool { return c.Name == k.Columns[0] })
}
