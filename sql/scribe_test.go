package sql_test

import (
	"cmp"
	"math/rand"
	"slices"
	"strconv"
	"strings"

	"relstore/api"
)

// scribe: writes statements in any of the ways in which the document lets them be written, and notes where errors may be.
type scribe struct {
	r      *rand.Rand
	tokens []string
	open   int     // how many are open
	events []event // of which those count that are errors
	parens int     // of a hundred expressions about so many stand in parentheses that they do not need
	dense  bool    // there is nothing that need not be
}

// event: an error, when it is found, and at which token.
type event struct {
	reason api.Errno
	token  int
	time   int // which token was read last
	phase  int // of that time: 0: it is read; 1: what is whole is looked at; 2: the token is looked at
}

func (w *scribe) oneOf(n int) bool { return w.r.Intn(n) == 0 }

// loosely: something that need not be is, once in so many times.
func (w *scribe) loosely(n int) bool { return !w.dense && w.oneOf(n) }

// put tokens as they are; the place of the first one.
func (w *scribe) put(tokens ...string) int {
	w.tokens = append(w.tokens, tokens...)
	return len(w.tokens) - len(tokens)
}

// word: keywords, in large or small letters.
func (w *scribe) word(words string) int {
	at := len(w.tokens)
	for _, s := range strings.Fields(words) {
		w.put(w.anyCase(s))
	}
	return at
}

func (w *scribe) anyCase(s string) string {
	b := []byte(s)
	for i := range b {
		if b[i] >= 'a' && b[i] <= 'z' && w.oneOf(4) {
			b[i] -= 'a' - 'A'
		}
	}
	return string(b)
}

// maybe keywords.
func (w *scribe) maybe(words string) {
	if w.loosely(2) {
		w.word(words)
	}
}

// opens: a token that others may stand within.
func (w *scribe) opens(token string) int {
	at := w.word(token)
	if w.open >= 150 {
		w.events = append(w.events, event{api.ErrLarge, at, at, 2})
	}
	w.open++
	return at
}

func (w *scribe) inParens(write func()) int {
	at := w.opens("(")
	write()
	w.put(")")
	w.open--
	return at
}

// whole: something of which the last token was written; its height.
func (w *scribe) whole(at, high, most int) int {
	if high > most {
		w.events = append(w.events, event{api.ErrLarge, at, len(w.tokens), 1})
	}
	return high
}

func (w *scribe) name(name string) int {
	plain := name != "" && (name[0] < '0' || name[0] > '9') && !slices.Contains(strings.Fields(keywords), name)
	for _, c := range []byte(name) {
		plain = plain && strings.IndexByte("abcdefghijklmnopqrstuvwxyz_0123456789", c) >= 0
	}
	if plain && !w.loosely(4) {
		return w.put(w.anyCase(name))
	}
	return w.put(`"` + strings.ReplaceAll(name, `"`, `""`) + `"`)
}

func (w *scribe) number(n int64) {
	zeros := ""
	if w.loosely(5) {
		zeros = "000"
	}
	w.put(zeros + strconv.FormatInt(n, 10))
}

func (w *scribe) literal(v api.Value) {
	switch v.Kind {
	case api.Null:
		w.word("null")
	case api.Bool:
		w.word([]string{"false", "true"}[v.N])
	case api.Int:
		w.number(v.N)
	case api.Text:
		w.put("'" + strings.ReplaceAll(v.S, "'", "''") + "'")
	}
}

// several things, with commas between.
func several[T any](w *scribe, l []T, write func(x T)) {
	for i, x := range l {
		if i > 0 {
			w.put(",")
		}
		write(x)
	}
}

func (w *scribe) names(l []string) {
	w.inParens(func() { several(w, l, func(s string) { w.name(s) }) })
}

// exprs: the highest one's height.
func (w *scribe) exprs(l []api.Expr) int {
	high := 0
	several(w, l, func(e api.Expr) { high = max(high, w.expr(e, 1)) })
	return high
}

// lines of operations, as the document counts them.
func line(op int) int {
	switch op {
	case api.Or:
		return 1
	case api.And:
		return 2
	case api.Not:
		return 3
	case api.Eq, api.Ne, api.Lt, api.Le, api.Gt, api.Ge, api.Like, api.IsNull, api.Between, api.In:
		return 4
	case api.Concat:
		return 5
	case api.Add, api.Sub:
		return 6
	case api.Mul, api.Div, api.Mod:
		return 7
	case api.Neg:
		return 8
	}
	return 9
}

// expr where one of this line may stand, or below; its height.
func (w *scribe) expr(e api.Expr, where int) int {
	high := 0
	if line(e.Op) < where || !w.dense && w.r.Intn(100) < w.parens {
		w.inParens(func() { high = w.expr(e, 1) })
		return high
	}
	switch line(e.Op) {
	case 3, 8:
		return w.prefixed(e)
	case 4:
		return w.test(e, false)
	case 9:
		return w.part(e)
	}
	left := w.expr(e.Args[0], line(e.Op))
	at := w.word(operator(e.Op))
	right := w.expr(e.Args[1], line(e.Op)+1)
	return w.whole(at, 1+max(left, right), 60)
}

func operator(op int) string {
	return map[int]string{api.Or: "or", api.And: "and", api.Concat: "||", api.Add: "+", api.Sub: "-", api.Mul: "*", api.Div: "/", api.Mod: "%", api.Eq: "=", api.Ne: "<>", api.Lt: "<", api.Le: "<=", api.Gt: ">", api.Ge: ">="}[op]
}

func (w *scribe) prefixed(e api.Expr) int {
	if e.Op == api.Not {
		switch e.Args[0].Op {
		case api.IsNull, api.Between, api.Like, api.In:
			if w.oneOf(2) {
				return w.test(e.Args[0], true)
			}
		}
	}
	at := w.opens(map[int]string{api.Not: "not", api.Neg: "-"}[e.Op])
	high := w.expr(e.Args[0], line(e.Op))
	w.open--
	return w.whole(at, 1+high, 60)
}

// test, perhaps with NOT in it.
func (w *scribe) test(e api.Expr, not bool) int {
	high := w.expr(e.Args[0], 5)
	at := len(w.tokens)
	if not && e.Op != api.IsNull {
		w.word("not")
	}
	switch e.Op {
	case api.IsNull:
		w.word("is")
		if not {
			w.word("not")
		}
		w.word("null")
	case api.Between:
		w.word("between")
		high = max(high, w.expr(e.Args[1], 5))
		w.word("and")
		high = max(high, w.expr(e.Args[2], 5))
	case api.Like:
		w.word("like")
		high = max(high, w.expr(e.Args[1], 5))
	case api.In:
		w.word("in")
		w.inParens(func() {
			if len(e.Sub) > 0 {
				high = max(high, w.query(e.Sub[0]))
			} else {
				high = max(high, w.exprs(e.Args[1:]))
			}
		})
	case api.Ne:
		w.put([]string{"<>", "!="}[w.r.Intn(2)])
		high = max(high, w.expr(e.Args[1], 5))
	default:
		w.put(operator(e.Op))
		high = max(high, w.expr(e.Args[1], 5))
	}
	high = w.whole(at, 1+high, 60)
	if not {
		high = w.whole(at, 1+high, 60)
	}
	return high
}

func (w *scribe) part(e api.Expr) int {
	high, at := 0, len(w.tokens)
	switch e.Op {
	case api.Lit:
		w.literal(e.Value)
	case api.Col:
		if e.Table != "" {
			w.name(e.Table)
			w.put(".")
		}
		w.name(e.Name)
	case api.Func:
		w.name(e.Name)
		w.inParens(func() { high = w.exprs(e.Args) })
	case api.Agg:
		w.name(e.Name)
		w.inParens(func() {
			if e.Form == 2 {
				w.put("*")
			} else if e.Form == 1 {
				w.word("distinct")
			}
			high = w.exprs(e.Args)
		})
	case api.Case:
		high = w.choice(e)
	case api.Cast:
		w.word("cast")
		w.inParens(func() {
			high = w.expr(e.Args[0], 1)
			w.word("as")
			w.kind(e.Form)
		})
	case api.Exists:
		w.word("exists")
		w.inParens(func() { high = w.query(e.Sub[0]) })
	case api.Scalar:
		w.inParens(func() { high = w.query(e.Sub[0]) })
	}
	return w.whole(at, 1+high, 60)
}

func (w *scribe) kind(kind int) {
	w.word([]string{"", "boolean", "integer", "text"}[kind])
}

func (w *scribe) choice(e api.Expr) int {
	w.opens("case")
	high, l := 0, e.Args
	if e.Form&1 != 0 {
		high = w.expr(l[0], 1)
		l = l[1:]
	}
	for len(l) > 1 {
		w.word("when")
		high = max(high, w.expr(l[0], 1))
		w.word("then")
		high = max(high, w.expr(l[1], 1))
		l = l[2:]
	}
	if e.Form&2 != 0 {
		w.word("else")
		high = max(high, w.expr(l[0], 1))
	}
	w.word("end")
	w.open--
	return high
}

// clause: perhaps a word and an expression; its height.
func (w *scribe) clause(word string, l []api.Expr) int {
	if len(l) == 0 {
		return 0
	}
	w.word(word)
	return w.expr(l[0], 1)
}

func (w *scribe) query(q api.Select) int {
	high := 0
	for i, c := range q.Cores {
		if i > 0 {
			w.word([]string{"", "union", "union all", "intersect", "except"}[q.Ops[i-1]])
		}
		high = max(high, w.core(c))
	}
	if len(q.Order) > 0 {
		w.word("order by")
		several(w, q.Order, func(o api.Order) {
			high = max(high, w.expr(o.Expr, 1))
			if o.Desc {
				w.word("desc")
			} else {
				w.maybe("asc")
			}
		})
	}
	if q.Limit >= 0 {
		w.word("limit")
		w.number(q.Limit)
		if q.Offset > 0 || w.loosely(2) {
			w.word("offset")
			w.number(q.Offset)
		}
	}
	return high
}

func (w *scribe) core(c api.Core) int {
	high := 0
	w.word("select")
	if c.Distinct {
		w.word("distinct")
	}
	several(w, c.Items, func(i api.Item) {
		switch {
		case !i.Star:
			high = max(high, w.expr(i.Expr, 1))
			w.alias(i.As)
		case i.Table == "":
			w.put("*")
		default:
			w.name(i.Table)
			w.put(".", "*")
		}
	})
	for i, f := range c.From {
		high = max(high, w.source(i, f))
	}
	high = max(high, w.clause("where", c.Where))
	if len(c.Group) > 0 {
		w.word("group by")
		high = max(high, w.exprs(c.Group))
	}
	return max(high, w.clause("having", c.Having))
}

func (w *scribe) alias(as string) {
	if as != "" {
		w.maybe("as")
		w.name(as)
	}
}

func (w *scribe) source(i int, f api.From) int {
	high := 0
	switch {
	case i == 0:
		w.word("from")
	case f.Join == api.Cross:
		if w.loosely(2) {
			w.word("cross join")
		} else {
			w.put(",")
		}
	case f.Join == api.Inner:
		w.maybe("inner")
		w.word("join")
	case f.Join == api.Left:
		w.word("left")
		w.maybe("outer")
		w.word("join")
	}
	if len(f.Sub) > 0 {
		at := w.inParens(func() { high = w.query(f.Sub[0]) })
		high = 1 + w.whole(at, high, 59)
	} else {
		w.name(f.Table)
	}
	w.alias(f.As)
	return max(high, w.clause("on", f.On))
}

func (w *scribe) statement(s api.Stmt) {
	switch s.Kind {
	case api.Query:
		w.query(s.Query[0])
	case api.Insert:
		w.word("insert into")
		w.name(s.Table)
		if len(s.Names) > 0 {
			w.names(s.Names)
		}
		if len(s.Query) > 0 {
			w.query(s.Query[0])
			break
		}
		w.word("values")
		several(w, s.Rows, func(l []api.Expr) { w.inParens(func() { w.exprs(l) }) })
	case api.Update:
		w.word("update")
		w.name(s.Table)
		w.word("set")
		several(w, s.Sets, func(x api.Set) {
			w.name(x.Column)
			w.put("=")
			w.expr(x.Expr, 1)
		})
		w.clause("where", s.Where)
	case api.Delete:
		w.word("delete from")
		w.name(s.Table)
		w.clause("where", s.Where)
	case api.CreateTable:
		w.word("create table")
		w.name(s.Table)
		w.inParens(func() { w.table(s) })
	case api.CreateIndex:
		w.word("create")
		if s.Unique {
			w.word("unique")
		}
		w.word("index")
		w.name(s.Name)
		w.word("on")
		w.name(s.Table)
		w.names(s.Names)
	default:
		w.control(s)
	}
}

func (w *scribe) control(s api.Stmt) {
	w.word(map[int]string{api.DropTable: "drop table", api.DropIndex: "drop index", api.Begin: "begin", api.Commit: "commit", api.Rollback: "rollback", api.Savepoint: "savepoint", api.Release: "release", api.Checkpoint: "checkpoint"}[s.Kind])
	switch {
	case s.Kind == api.DropTable:
		w.name(s.Table)
	case s.Kind == api.Rollback && s.Name != "":
		w.word("to")
		w.name(s.Name)
	case s.Name != "":
		w.name(s.Name)
	}
}

// table: its columns in order, and so its keys and its checks: with a column, if it is theirs, or as rules.
func (w *scribe) table(s api.Stmt) {
	keys, checks := s.Keys, s.Checks
	first := true
	next := func() {
		if !first {
			w.put(",")
		}
		first = false
	}
	for i := 0; ; {
		switch left := len(s.Columns) - i; {
		case len(keys) > 0 && (left == 0 || w.oneOf(6)):
			next()
			w.key(keys[0])
			w.names(keys[0].Columns)
			keys = keys[1:]
		case len(checks) > 0 && (left == 0 || w.oneOf(6)):
			next()
			w.check(checks[0])
			checks = checks[1:]
		case left > 0:
			next()
			keys, checks = w.column(s.Columns[i], keys, checks)
			i++
		default:
			return
		}
	}
}

func (w *scribe) key(k api.Key) {
	if k.Primary {
		w.word("primary key")
	} else {
		w.word("unique")
	}
}

func (w *scribe) check(e api.Expr) {
	w.word("check")
	w.inParens(func() { w.expr(e, 1) })
}

// column; the keys and checks that are left.
func (w *scribe) column(c api.ColumnDef, keys []api.Key, checks []api.Expr) ([]api.Key, []api.Expr) {
	w.name(c.Name)
	w.kind(c.Kind)
	notNull, fallback := c.NotNull, c.Default
	for n := 0; n < 3 || notNull || len(fallback) > 0; n++ {
		switch w.r.Intn(4) {
		case 0:
			if notNull || c.NotNull && w.loosely(2) {
				w.word("not null")
				notNull = false
			}
		case 1:
			if len(fallback) > 0 || len(c.Default) > 0 && w.loosely(2) {
				if w.loosely(3) {
					w.word("default null")
				}
				w.fallback(c.Default[0])
				fallback = nil
			}
		case 2:
			if len(keys) > 0 && len(keys[0].Columns) == 1 && keys[0].Columns[0] == c.Name {
				w.key(keys[0])
				keys = keys[1:]
			}
		case 3:
			if len(checks) > 0 {
				w.check(checks[0])
				checks = checks[1:]
			}
		}
	}
	return keys, checks
}

func (w *scribe) fallback(v api.Value) {
	w.word("default")
	if v.Kind == api.Int && v.N < 0 {
		w.put("-")
		v.N = -v.N
	}
	w.literal(v)
}

// text of the tokens, with blanks and comments between; and each one's place, with the end's.
func (w *scribe) text() (string, []int) {
	var b strings.Builder
	var places []int
	for i, token := range w.tokens {
		if i > 0 || w.loosely(4) {
			b.WriteString(w.between(b.String(), token))
		}
		places = append(places, b.Len())
		b.WriteString(token)
	}
	if w.loosely(4) {
		b.WriteString([]string{" ", "\n-- end", "\t/**/"}[w.r.Intn(3)])
	}
	return b.String(), append(places, b.Len())
}

func (w *scribe) between(ahead, token string) string {
	const letters = "abcdefghijklmnopqrstuvwxyzABCDEFGHIJKLMNOPQRSTUVWXYZ_0123456789"
	end := "("
	if ahead != "" {
		end = ahead[len(ahead)-1:]
	}
	one := strings.Contains(letters, end) && strings.Contains(letters, token[:1]) || end == token[:1] && strings.Contains(`-"'`, end)
	if !one && (w.dense || w.oneOf(3)) {
		return ""
	}
	if w.dense {
		return " "
	}
	blanks := []string{" ", " ", " ", " ", "\t", "\n", "\r\n", "  ", " /* ' \" -- */", "\n/**//*/*/ ", " --\n", " -- ' /* \" \n"}
	return blanks[w.r.Intn(len(blanks))]
}

// first error that is found; and the place of its token.
func (w *scribe) first(places []int) (api.Errno, int) {
	slices.SortStableFunc(w.events, func(a, b event) int { return cmp.Or(a.time-b.time, a.phase-b.phase) })
	if len(w.events) == 0 {
		return api.OK, 0
	}
	return w.events[0].reason, places[w.events[0].token]
}
