package bind_test

import (
	"slices"
	"strings"
	"testing"

	"relstore/api"
	"relstore/bind"
)

// rule: the kind that comes of the parts' kinds; false: ErrType.
type rule func(kinds []int) (int, bool)

// form of an expression, its parts at $.
type form struct {
	text string
	rule rule
}

// each part is of a kind or null; what comes is of a kind.
func each(kind, gives int) rule {
	return func(kinds []int) (int, bool) {
		for _, k := range kinds {
			if k != api.Null && k != kind {
				return 0, false
			}
		}
		return gives, true
	}
}

// theirs: the kind of parts that must be alike.
func theirs(kinds []int) (int, bool) {
	for kind := range 4 {
		if k, ok := each(kind, kind)(kinds); ok {
			return k, true
		}
	}
	return 0, false
}

// likeTruth: parts that must be alike; a truth.
func likeTruth(kinds []int) (int, bool) {
	_, ok := theirs(kinds)
	return api.Bool, ok
}

// whatever the parts are.
func whatever(gives int) rule { return func([]int) (int, bool) { return gives, true } }

// parted: some parts, by their numbers, under one rule, which must hold; the others under one that tells the kind.
func parted(first rule, some []int, others rule) rule {
	return func(kinds []int) (int, bool) {
		var a, b []int
		for i, k := range kinds {
			if slices.Contains(some, i) {
				a = append(a, k)
			} else {
				b = append(b, k)
			}
		}
		_, ok := first(a)
		kind, fine := others(b)
		return kind, ok && fine
	}
}

// plainForms: those without aggregates and queries.
func plainForms() []form {
	numbers, truths, texts := each(api.Int, api.Int), each(api.Bool, api.Bool), each(api.Text, api.Text)
	return []form{
		{"-$", numbers}, {"$ + $", numbers}, {"$ - $", numbers}, {"$ * $", numbers}, {"$ / $", numbers}, {"$ % $", numbers},
		{"not $", truths}, {"$ and $", truths}, {"$ or $", truths},
		{"$ || $", texts}, {"$ like $", each(api.Text, api.Bool)}, {"$ not like $", each(api.Text, api.Bool)},
		{"$ = $", likeTruth}, {"$ <> $", likeTruth}, {"$ < $", likeTruth}, {"$ <= $", likeTruth}, {"$ > $", likeTruth}, {"$ >= $", likeTruth},
		{"$ between $ and $", likeTruth}, {"$ not between $ and $", likeTruth},
		{"$ is null", whatever(api.Bool)}, {"$ is not null", whatever(api.Bool)},
		{"$ in ($)", likeTruth}, {"$ not in ($, $)", likeTruth}, {"$ in ($, $, $)", likeTruth},
		{"cast($ as boolean)", whatever(api.Bool)}, {"cast($ as integer)", whatever(api.Int)}, {"cast($ as text)", whatever(api.Text)},
		{"case when $ then $ end", parted(truths, []int{0}, theirs)},
		{"case when $ then $ else $ end", parted(truths, []int{0}, theirs)},
		{"case when $ then $ when $ then $ end", parted(truths, []int{0, 2}, theirs)},
		{"case when $ then $ when $ then $ else $ end", parted(truths, []int{0, 2}, theirs)},
		{"case $ when $ then $ end", parted(theirs, []int{0, 1}, theirs)},
		{"case $ when $ then $ else $ end", parted(theirs, []int{0, 1}, theirs)},
		{"case $ when $ then $ when $ then $ end", parted(theirs, []int{0, 1, 3}, theirs)},
		{"case $ when $ then $ when $ then $ else $ end", parted(theirs, []int{0, 1, 3}, theirs)},
		{"length($)", each(api.Text, api.Int)}, {"upper($)", texts}, {"lower($)", texts}, {"abs($)", numbers},
		{"substr($, $)", parted(numbers, []int{1}, texts)}, {"substr($, $, $)", parted(numbers, []int{1, 2}, texts)},
		{"coalesce($)", theirs}, {"coalesce($, $)", theirs}, {"coalesce($, $, $, $)", theirs}, {"nullif($, $)", theirs},
	}
}

func queryForms() []form {
	return []form{
		{"(select $)", theirs}, {"exists (select $)", whatever(api.Bool)}, {"not exists (select $)", whatever(api.Bool)}, {"exists (select $, $)", whatever(api.Bool)},
		{"$ in (select $)", likeTruth}, {"$ not in (select $)", likeTruth}, {"$ in (select $ union select $)", likeTruth},
		{"(select $ union all select $)", theirs}, {"(select $ from v)", theirs}, {"(select x.q from (select $ as q) x)", theirs},
	}
}

func aggregateForms() []form {
	numbers := each(api.Int, api.Int)
	return []form{
		{"count($)", whatever(api.Int)}, {"count(distinct $)", whatever(api.Int)}, {"sum($)", numbers}, {"sum(distinct $)", numbers}, {"avg($)", numbers}, {"avg(distinct $)", numbers},
		{"min($)", theirs}, {"min(distinct $)", theirs}, {"max($)", theirs}, {"max(distinct $)", theirs},
	}
}

func allForms() []form { return append(append(plainForms(), queryForms()...), aggregateForms()...) }

// combinations of n of the four kinds.
func combinations(n int) [][]int {
	l := [][]int{nil}
	for range n {
		var longer [][]int
		for _, x := range l {
			for kind := range 4 {
				longer = append(longer, append(append([]int(nil), x...), kind))
			}
		}
		l = longer
	}
	return l
}

// P17: each kind of expression with each kind of parts.
func TestKinds(t *testing.T) {
	tables := made(t, schema)
	literals := []string{"(null)", "(true)", "(1)", "('x')"}
	columns := []string{"x.n", "t.d", "t.a", "t.c"}
	for _, f := range allForms() {
		for _, kinds := range combinations(strings.Count(f.text, "$")) {
			for _, words := range [][]string{literals, columns} {
				var parts []string
				for _, k := range kinds {
					parts = append(parts, words[k])
				}
				text := "select " + fill(f.text, parts...) + " as q from t, (select null as n) x"
				if kind, ok := f.rule(kinds); ok {
					expectColumns(t, tables, text, api.Column{Name: "q", Kind: kind})
				} else {
					expect(t, tables, text, api.ErrType)
				}
			}
		}
	}
}

// P17: the parts of an expression come first, from the left, and ahead of it itself.
func TestPartsComeFirst(t *testing.T) {
	tables := made(t, schema)
	for _, f := range allForms() {
		n := strings.Count(f.text, "$")
		for i := range n {
			for _, x := range wrongs() {
				// All the others are of kinds that may be wrong here.
				for _, other := range []string{"true", "1", "'x'", "null"} {
					parts := strings.Fields(run(other+" ", n))
					parts[i] = x.text
					expect(t, tables, "select "+fill(f.text, parts...), x.want)
				}
				for j := i + 1; j < n; j++ {
					for _, y := range wrongs() {
						parts := strings.Fields(run("null ", n))
						parts[i], parts[j] = x.text, y.text
						expect(t, tables, "select "+fill(f.text, parts...), x.want)
					}
				}
			}
		}
	}
}

// P17: literals, and what is made of null alone.
func TestKindsOfNull(t *testing.T) {
	tables := made(t, schema)
	for text, kind := range map[string]int{
		"null": api.Null, "true": api.Bool, "false": api.Bool, "0": api.Int, "''": api.Text,
		"-null": api.Int, "null + null": api.Int, "not null": api.Bool, "null and null": api.Bool, "null || null": api.Text, "null like null": api.Bool, "null = null": api.Bool, "null is null": api.Bool,
		"null in (null)": api.Bool, "null in (select null)": api.Bool, "(select null)": api.Null, "case when null then null end": api.Null, "case null when null then null else null end": api.Null, "cast(null as text)": api.Text,
		"length(null)": api.Int, "upper(null)": api.Text, "abs(null)": api.Int, "substr(null, null)": api.Text, "coalesce(null, null)": api.Null, "nullif(null, null)": api.Null, "nullif(null, 1)": api.Int, "coalesce(null, 'x', null)": api.Text,
		"count(null)": api.Int, "count(*)": api.Int, "sum(null)": api.Int, "avg(null)": api.Int, "min(null)": api.Null, "max(null)": api.Null,
	} {
		expectColumns(t, tables, "select "+text, api.Column{Name: "column1", Kind: kind})
	}
}

// P17: the query of In and Scalar has one column; its own errors come ahead of that, and the parts ahead of them.
func TestQueriesInExpressions(t *testing.T) {
	expectAll(t, []told{
		{"select (select a from t)", api.OK}, {"select (select a, b from t)", api.ErrForm}, {"select (select * from t)", api.ErrForm}, {"select (select * from (select a from t) x)", api.OK},
		{"select 1 in (select a from t)", api.OK}, {"select 1 in (select a, b from t)", api.ErrForm}, {"select 1 in (select * from t)", api.ErrForm}, {"select 'x' in (select a, b from t)", api.ErrForm},
		{"select exists (select a, b from t)", api.OK}, {"select exists (select * from t)", api.OK}, {"select exists (select zz from t)", api.ErrName},
		{"select (select a, zz from t)", api.ErrName}, {"select 1 in (select a, zz from t)", api.ErrName}, {"select 1 in (select a, b from nn)", api.ErrMissing},
		{"select zz in (select 1 from nn)", api.ErrName}, {"select 1 + 'x' in (select 1, 2)", api.ErrType}, {"select (select 1, 2) + 'x'", api.ErrForm}, {"select 'x' + (select 1, 2)", api.ErrForm},
		{"select 'x' in (select a from t)", api.ErrType}, {"select 1 in (select c from t)", api.ErrType}, {"select null in (select c from t)", api.OK}, {"select 1 in (select null from t)", api.OK},
		{"select (select 1 union select 'x')", api.ErrType}, {"select 1 in (select 1 union select 2, 3)", api.ErrForm},
	})
}

// P17: functions: whether there is one, how many parts it has, of which kinds.
func TestFunctions(t *testing.T) {
	tables := made(t, schema)
	for name, n := range map[string][2]int{"length": {1, 1}, "upper": {1, 1}, "lower": {1, 1}, "abs": {1, 1}, "substr": {2, 3}, "coalesce": {1, 99}, "nullif": {2, 2}} {
		for i := range 12 {
			want := api.OK
			if i < n[0] || i > n[1] {
				want = api.ErrForm
			}
			parts := strings.TrimSuffix(run("null, ", i), ", ")
			expect(t, tables, "select "+name+"("+parts+")", want)
			expect(t, tables, "select "+strings.ToUpper(name)+"("+parts+")", want)
			expect(t, tables, `select "`+strings.ToUpper(name)+`"(`+parts+")", api.ErrName)
			expect(t, tables, "select "+name+"s("+parts+")", api.ErrName)
		}
	}
	expectAll(t, []told{
		{"select nn()", api.ErrName}, {"select nn(1, 2)", api.ErrName}, {"select nn(1 + 'x')", api.ErrType}, {"select nn(length())", api.ErrForm}, {"select nn((select 1 from nn))", api.ErrMissing},
		{"select length(zz, 1)", api.ErrName}, {"select length(1, 1 + 'x')", api.ErrType}, {"select length(1, 2)", api.ErrForm}, {"select upper(true, 1)", api.ErrForm}, {"select abs('x', 'y')", api.ErrForm}, {"select substr(1)", api.ErrForm}, {"select substr(1, 2, 3, 4)", api.ErrForm}, {"select nullif(1, 'x', true)", api.ErrForm}, {"select nullif()", api.ErrForm},
		{"select coalesce(" + run("1, ", 500) + "1)", api.OK}, {"select coalesce(" + run("1, ", 500) + "'x')", api.ErrType}, {"select coalesce(" + run("null, ", 500) + "'x') || 'x'", api.OK},
		{"select reverse('x')", api.ErrName}, {"select substring('x', 1)", api.ErrName},
	})
	for _, kind := range []int{api.Bool, api.Int, api.Text} {
		if l, e := bind.Columns(tables, one(t, "select nullif(null, "+[]string{"", "true", "1", "'x'"}[kind]+")").Query[0]); e != api.OK || l[0].Kind != kind {
			t.Error(kind, l, e)
		}
	}
}
