package sql_test

import (
	"math/rand"
	"slices"
	"strings"
	"testing"

	"relstore/api"
	"relstore/sql"
)

// grammar of the document, by its own words: each line is a way to make what stands ahead of the colon. Capital words are keywords.
const grammar = `
script:
script: statements
script: statements ;
statements: statement
statements: statements ; statement
query: cores order limit
cores: core
cores: cores UNION core
cores: cores UNION ALL core
cores: cores INTERSECT core
cores: cores EXCEPT core
order:
order: ORDER BY sorts
sorts: sort
sorts: sorts , sort
sort: expr
sort: expr ASC
sort: expr DESC
limit:
limit: LIMIT number
limit: LIMIT number OFFSET number
core: SELECT distinct items fromlist where group having
distinct:
distinct: DISTINCT
items: item
items: items , item
item: *
item: name . *
item: expr alias
alias:
alias: title
title: name
title: AS name
fromlist:
fromlist: FROM from
from: source
from: from , source
from: from CROSS JOIN source
from: from inner JOIN source ON expr
from: from LEFT outer JOIN source ON expr
inner:
inner: INNER
outer:
outer: OUTER
source: name alias
source: ( query ) title
where:
where: WHERE expr
group:
group: GROUP BY exprs
having:
having: HAVING expr
exprs: expr
exprs: exprs , expr
names: name
names: names , name
statement: query
statement: INSERT INTO name query
statement: INSERT INTO name ( names ) query
statement: INSERT INTO name VALUES rows
statement: INSERT INTO name ( names ) VALUES rows
rows: ( exprs )
rows: rows , ( exprs )
statement: UPDATE name SET sets where
sets: name = expr
sets: sets , name = expr
statement: DELETE FROM name where
statement: CREATE TABLE name ( elements )
elements: element
elements: elements , element
element: name kind constraints
element: PRIMARY KEY ( names )
element: UNIQUE ( names )
element: CHECK ( expr )
kind: BOOLEAN
kind: INTEGER
kind: TEXT
constraints:
constraints: constraints NOT NULL
constraints: constraints DEFAULT literal
constraints: constraints DEFAULT - number
constraints: constraints PRIMARY KEY
constraints: constraints UNIQUE
constraints: constraints CHECK ( expr )
literal: number
literal: 'text'
literal: TRUE
literal: FALSE
literal: NULL
statement: CREATE INDEX name ON name ( names )
statement: CREATE UNIQUE INDEX name ON name ( names )
statement: DROP TABLE name
statement: DROP INDEX name
statement: BEGIN
statement: COMMIT
statement: ROLLBACK
statement: ROLLBACK TO name
statement: SAVEPOINT name
statement: RELEASE name
statement: CHECKPOINT
expr: line2
expr: expr OR line2
line2: line3
line2: line2 AND line3
line3: line4
line3: NOT line3
line4: line5
line4: line5 = line5
line4: line5 <> line5
line4: line5 < line5
line4: line5 <= line5
line4: line5 > line5
line4: line5 >= line5
line4: line5 IS NULL
line4: line5 IS NOT NULL
line4: line5 not BETWEEN line5 AND line5
line4: line5 not LIKE line5
line4: line5 not IN ( exprs )
line4: line5 not IN ( query )
not:
not: NOT
line5: line6
line5: line5 || line6
line6: line7
line6: line6 + line7
line6: line6 - line7
line7: line8
line7: line7 * line8
line7: line7 / line8
line7: line7 % line8
line8: line9
line8: - line8
line9: literal
line9: name
line9: name . name
line9: x ( )
line9: x ( exprs )
line9: count ( * )
line9: count ( DISTINCT expr )
line9: count ( expr )
line9: CASE whens ELSE expr END
line9: CASE whens END
line9: CASE expr whens ELSE expr END
line9: CASE expr whens END
whens: WHEN expr THEN expr
whens: whens WHEN expr THEN expr
line9: CAST ( expr AS kind )
line9: EXISTS ( query )
line9: ( query )
line9: ( expr )
name: x
name: count
number: 1
`

// keywords, as the document lists them.
const keywords = "all and as asc begin between boolean by case cast check checkpoint commit create cross default delete desc distinct drop else end except exists false from group having in index inner insert integer intersect into is join key left like limit not null offset on or order outer primary release rollback savepoint select set table text then to true union unique update values when where"

const signs = "<> <= >= || ( ) , . ; * + - / % = < >"

// anyToken: each keyword and sign, and one name, aggregate, number and text.
func anyToken() []string {
	return slices.Concat(strings.Fields(keywords), strings.Fields(signs), []string{"x", "count", "1", "'text'"})
}

// way to make something.
type way struct {
	what string
	of   []string
}

// step of a way: how much of it is done, and from which token on.
type step struct {
	way, done, from int
}

// chart of a row of tokens: all steps that may be under way at each place (as Earley's parser has them). So it is known which tokens may stand next, by the grammar alone.
type chart struct {
	ways  []way
	by    map[string][]int
	spots [][]step
}

func newChart() *chart {
	c := &chart{by: map[string][]int{}}
	for line := range strings.Lines(grammar) {
		what, of, ok := strings.Cut(strings.TrimSpace(line), ":")
		if ok {
			c.by[what] = append(c.by[what], len(c.ways))
			c.ways = append(c.ways, way{what, strings.Fields(of)})
		}
	}
	var first []step
	for _, w := range c.by["script"] {
		first = append(first, step{w, 0, 0})
	}
	c.spots = [][]step{c.closed(first, 0)}
	return c
}

// next: what a step needs next; nothing, if it is done.
func (c *chart) next(s step) string {
	if of := c.ways[s.way].of; s.done < len(of) {
		return of[s.done]
	}
	return ""
}

// closed: the steps at a place, with all that begins or ends there.
func (c *chart) closed(l []step, at int) []step {
	seen := map[step]bool{}
	empty := map[string]bool{}
	var all []step
	add := func(s step) {
		if !seen[s] {
			seen[s] = true
			all = append(all, s)
		}
	}
	for _, s := range l {
		add(s)
	}
	for i := 0; i < len(all); i++ {
		s := all[i]
		need := c.next(s)
		if need == "" {
			what := c.ways[s.way].what
			empty[what] = empty[what] || s.from == at
			waiting := all
			if s.from < at {
				waiting = c.spots[s.from]
			}
			for _, w := range waiting {
				if c.next(w) == what {
					add(step{w.way, w.done + 1, w.from})
				}
			}
			continue
		}
		for _, w := range c.by[need] {
			add(step{w, 0, at})
		}
		if empty[need] {
			add(step{s.way, s.done + 1, s.from})
		}
	}
	return all
}

// may: the tokens that may stand next.
func (c *chart) may() map[string]bool {
	m := map[string]bool{}
	for _, s := range c.spots[len(c.spots)-1] {
		if need := c.next(s); need != "" && c.by[need] == nil {
			m[strings.ToLower(need)] = true
		}
	}
	return m
}

// isWhole: are the tokens so far a script?
func (c *chart) isWhole() bool {
	for _, s := range c.spots[len(c.spots)-1] {
		if c.ways[s.way].what == "script" && s.from == 0 && c.next(s) == "" {
			return true
		}
	}
	return false
}

// push a token that may stand next.
func (c *chart) push(token string) {
	var l []step
	for _, s := range c.spots[len(c.spots)-1] {
		if need := c.next(s); need != "" && c.by[need] == nil && strings.ToLower(need) == token {
			l = append(l, step{s.way, s.done + 1, s.from})
		}
	}
	at := len(c.spots)
	c.spots = append(c.spots, nil)
	c.spots[at] = c.closed(l, at)
}

func (c *chart) pop() { c.spots = c.spots[:len(c.spots)-1] }

// hold Parse against the chart: with each token behind the tokens so far, and with none.
func hold(t *testing.T, c *chart, tokens []string) {
	t.Helper()
	so := strings.Join(tokens, " ")
	if so != "" {
		so += " "
	}
	want, at := api.ErrSyntax, len(so)
	if c.isWhole() {
		want, at = api.OK, 0
	}
	if _, e, place := sql.Parse(so); e != want || place != at {
		t.Fatalf("%q: %v at %d, want %v at %d", so, e, place, want, at)
	}
	may := c.may()
	for _, token := range anyToken() {
		text := so + token
		_, e, place := sql.Parse(text)
		if may[token] && (e != api.OK && (e != api.ErrSyntax || place != len(text))) || !may[token] && (e != api.ErrSyntax || place != len(so)) {
			t.Fatalf("%q: %v at %d, but that it may stand there is %v", text, e, place, may[token])
		}
	}
}

// few tokens.
const few = 4

// P15: of all rows of a few tokens, that an error is told at the first one with which they are no beginning of any script.
func TestFewTokens(t *testing.T) {
	c := newChart()
	var walk func(tokens []string)
	walk = func(tokens []string) {
		hold(t, c, tokens)
		if len(tokens) == few {
			return
		}
		may := c.may()
		for _, token := range anyToken() {
			if may[token] {
				c.push(token)
				walk(append(tokens, token))
				c.pop()
			}
		}
	}
	walk(nil)
}

// sizes: of how many tokens at least each thing is made.
func (c *chart) sizes() map[string]int {
	m := map[string]int{}
	for range c.ways {
		for _, w := range c.ways {
			if n := c.size(w, m); m[w.what] == 0 || n < m[w.what] {
				m[w.what] = n
			}
		}
	}
	return m
}

// size of a way, one more than its tokens, by the sizes that are known.
func (c *chart) size(w way, sizes map[string]int) int {
	n := 1
	for _, of := range w.of {
		switch {
		case c.by[of] == nil:
			n++
		case sizes[of] == 0:
			n += 1000
		default:
			n += sizes[of]
		}
	}
	return n
}

// derive tokens of a thing: by any ways, up to so many deep; then by the shortest ones.
func (c *chart) derive(r *rand.Rand, what string, deep int, sizes map[string]int) []string {
	ways := c.by[what]
	if ways == nil {
		return []string{strings.ToLower(what)}
	}
	w := c.ways[ways[r.Intn(len(ways))]]
	if deep <= 0 {
		w = c.ways[slices.MinFunc(ways, func(i, j int) int { return c.size(c.ways[i], sizes) - c.size(c.ways[j], sizes) })]
	}
	return c.deriveAll(r, w.of, deep-1, sizes)
}

func (c *chart) deriveAll(r *rand.Rand, of []string, deep int, sizes map[string]int) []string {
	var l []string
	for _, what := range of {
		l = append(l, c.derive(r, what, deep, sizes)...)
	}
	return l
}

// around tokens of a thing: a script that has them in it.
func (c *chart) around(r *rand.Rand, what string, tokens []string, sizes map[string]int) []string {
	if what == "script" {
		return tokens
	}
	uses := slices.DeleteFunc(slices.Clone(c.ways), func(w way) bool { return w.what == what || !slices.Contains(w.of, what) })
	w := uses[r.Intn(len(uses))]
	at := slices.Index(w.of, what)
	ahead := c.deriveAll(r, w.of[:at], 1, sizes)
	behind := c.deriveAll(r, w.of[at+1:], 1, sizes)
	return c.around(r, w.what, slices.Concat(ahead, tokens, behind), sizes)
}

// P15: the same of longer scripts, made by all lines of the grammar.
func TestManyTokens(t *testing.T) {
	r := rand.New(rand.NewSource(15))
	c := newChart()
	sizes := c.sizes()
	seen := map[step]bool{}
	for range 3 {
		for _, w := range c.ways {
			tokens := c.around(r, w.what, c.deriveAll(r, w.of, 2, sizes), sizes)
			for len(tokens) > 25 {
				tokens = c.around(r, w.what, c.deriveAll(r, w.of, r.Intn(3), sizes), sizes)
			}
			for n, token := range tokens {
				c.push(token)
				hold(t, c, tokens[:n+1])
				for _, s := range c.spots[n+1] {
					seen[step{way: s.way, done: s.done}] = true
				}
			}
			c.spots = c.spots[:1]
		}
	}
	for i, w := range c.ways {
		for done := range w.of {
			if !seen[step{way: i, done: done + 1}] {
				t.Errorf("nothing was tried of %s: %v, behind %d", w.what, w.of, done)
			}
		}
	}
}
