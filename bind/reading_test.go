package bind_test

import (
	"reflect"
	"slices"
	"strconv"
	"strings"
	"testing"

	"relstore/api"
	"relstore/bind"
	"relstore/sql"
)

// shown: a term as a text: columns by their numbers.
func shown(t bind.Term) string {
	switch t.Op {
	case api.Col:
		return "#" + strconv.Itoa(t.Place.At)
	case api.Lit:
		return strconv.FormatInt(t.Value.N, 10) + t.Value.S
	}
	var l []string
	for _, p := range t.Parts {
		l = append(l, shown(p))
	}
	return strconv.Itoa(t.Op) + t.Name + "(" + strings.Join(l, " ") + ")"
}

// readings of a statement as a text: of each the table's name, and what is asked of its rows; in order.
func readings(t *testing.T, tables []api.Table, s api.Stmt) string {
	t.Helper()
	l, e := bind.Readings(tables, s)
	if want := bind.Check(tables, s); e != want || e != api.OK && len(l) > 0 {
		t.Fatalf("%s: %v with %v, not %v", sql.Print(s), l, e, want)
	}
	var out []string
	for _, r := range l {
		text := tables[r.Table].Name
		for _, x := range r.Where {
			text += " " + shown(x)
		}
		out = append(out, text)
	}
	slices.Sort(out)
	return strings.Join(out, ", ")
}

// op: the number of an operation, as it is shown.
func op(n int) string { return strconv.Itoa(n) }

func TestReadings(t *testing.T) {
	tables := made(t, schema)
	eq, lt := op(api.Eq), op(api.Lt)
	for _, x := range [][2]string{
		{"select 1", ""}, {"select 1 where 1 = 2", ""}, {"select * from t", "t"}, {"select b from t where b = 1", "t " + eq + "(#1 1)"}, {"select b from t x where x.b = 1 and (c = 'z' and true)", "t " + eq + "(#1 1) " + eq + "(#2 0z) 1"},
		{"select 1 from t where b = 1 or b = 2", "t " + op(api.Or) + "(" + eq + "(#1 1) " + eq + "(#1 2))"}, {"select 1 from t where not (d and d)", "t " + op(api.Not) + "(" + op(api.And) + "(#3 #3))"},
		{"select 1 from t where d", "t #3"}, {"select 1 from t where length(c) < 3", "t " + lt + "(" + op(api.Func) + "length(#2) 3)"},
		// Sources side by side: where their columns begin in a row of the core does not matter.
		{"select 1 from t, u where b = 1 and e = 'z' and t.a = u.a and 3 < 4", "t " + eq + "(#1 1) " + lt + "(3 4), u " + eq + "(#1 0z) " + lt + "(3 4)"},
		{"select 1 from v, u x, t, u y where y.a = 1 and x.a = 2 and g = 3", "t, u " + eq + "(#0 1), u " + eq + "(#0 2), v " + eq + "(#0 3)"},
		{"select 1 from t join u on b = 1 where e = 'z'", "t, u " + eq + "(#1 0z)"}, {"select 1 from t left join u on b = 1 where e = 'z' and b = 2", "t " + eq + "(#1 2), u"},
		{"select 1 from t left join u on true join v on true where g = 1 and f and true", "t 1, u, v " + eq + "(#0 1) 1"},
		// Queries within, and as sources.
		{"select 1 from t where exists (select 1 from u where u.a = t.a and f and d)", "t, u #2"}, {"select 1 from t where d and b in (select a from u)", "t #3, u"}, {"select 1 from t where d and (select f from u where a = 1) and b = 1", "t #3 " + eq + "(#1 1), u " + eq + "(#0 1)"},
		{"select 1 from (select a, b from t where d) as x, u where x.b = 1 and e = 'z'", "t #3, u " + eq + "(#1 0z)"}, {"select 1 from (select *, * from u) as x, t where b = 1", "t " + eq + "(#1 1), u"},
		{"select (select max(a) from u where f) from t group by a having (select count(*) from v where g = 1) < 3 order by (select min(a) from t where d)", "t, t #3, u #2, v " + eq + "(#0 1)"},
		{"select a from t where d union select a from u where f", "t #3, u #2"},
		// Changes.
		{"insert into v select a, c, d from t where d", "t #3"}, {"insert into v values (1, 'x', (select f from u where a = 1))", "u " + eq + "(#0 1)"}, {"insert into v values (1, 'x', true)", ""},
		{"update t set b = (select max(a) from u where f) where d and b = 1 and c in (select e from u)", "t #3 " + eq + "(#1 1), u, u #2"}, {"update t set b = 1", "t"}, {"delete from u where f and exists (select 1 from t where t.a = u.a)", "t, u #2"}, {"delete from u", "u"},
		{"create table w (a integer)", ""}, {"create index w on t (b)", ""}, {"drop table t", ""}, {"drop index i", ""}, {"begin", ""}, {"checkpoint", ""},
		// What means nothing reads nothing.
		{"select z from t", ""}, {"select 1 from t where exists (select z from u)", ""}, {"update t set b = 'x' where d", ""}, {"delete from w", ""},
	} {
		if got := readings(t, tables, one(t, x[0])); got != x[1] {
			t.Errorf("%s: %s, not %s", x[0], got, x[1])
		}
	}
}

// A query of several cores of very many columns: what it reads is told all the same.
func TestReadingsOfWideQueries(t *testing.T) {
	tables := made(t, schema)
	wide := "t"
	for range 40 {
		wide = "(select x.*, x.* from " + wide + " x where true)"
	}
	s := one(t, "select 1 from "+wide+" y, u where f")
	if got := readings(t, tables, s); got != "t 1, u #2" {
		t.Error(got)
	}
	s = one(t, "select * from "+wide+" y union select * from "+wide+" z")
	if got := readings(t, tables, s); got != "t 1, t 1" {
		t.Error(got)
	}
}

// Signs are the same for what is made the same way, and for nothing else.
func TestSigns(t *testing.T) {
	tables := made(t, schema)
	signs := map[string]string{}
	for _, where := range []string{
		"d", "not d", "b = 1", "b = 2", "a = 1", "1 = b", "b = 1 and d", "d and b = 1", "b = 1 and b = 2", "b < 1", "b + 1 = 1", "b = 1 + 1", "c = '1'", "c = ''", "c = '\x00'", "c like '1'", "length(c) = 1", "upper(c) = '1'", "lower(c) = '1'", "b in (1)", "b in (1, 2)", "b in (1) and b = 2", "b is null", "null", "true", "false",
		"case when d then true end", "case d when true then true end", "case when d then true else true end", "cast(b as boolean)", "cast(c as boolean)", "cast(cast(c as integer) as boolean)", "coalesce(d, true)", "coalesce(d) and true", "coalesce(d, true, d)", "b between 1 and 2", "b = 1 or b = 2", "a = 1 or d", "c = 'a' || 'b'", "c = 'ab'", "c = 'a' and c = 'b'", "nullif(d, d)", "b = -1", "b = - -1", "b = 1 - 1",
	} {
		var first string
		for _, form := range []string{"select 1 from t where $", "select 1 from v, t x where $", "update t set b = 1 where $", "select 1 from u where exists (select 1 from t y where $)"} {
			s := one(t, strings.Replace(form, "$", "("+where+")", 1))
			l, e := bind.Readings(tables, s)
			n := slices.IndexFunc(l, func(r bind.Reading) bool { return tables[r.Table].Name == "t" })
			if e != api.OK || n < 0 {
				t.Fatalf("%s: %v", sql.Print(s), e)
			}
			if first == "" {
				first = l[n].Sign()
			}
			if l[n].Sign() != first {
				t.Errorf("%s: another sign", sql.Print(s))
			}
		}
		if other, is := signs[first]; is {
			t.Errorf("%s has the sign of %s", where, other)
		}
		signs[first] = where
	}
	if (bind.Reading{}).Sign() != "" {
		t.Error("a sign of nothing")
	}
}

// P2: what comes out shares nothing with what was handed in, or with what comes out later.
func TestReadingsAreNew(t *testing.T) {
	tables := made(t, schema)
	s := one(t, "select 1 from t where b in (1, 2) and c = 'x' and exists (select 1 from u where f)")
	first, _ := bind.Readings(tables, s)
	second, _ := bind.Readings(tables, s)
	for i := range first {
		for k := range first[i].Where {
			clear(first[i].Where[k].Parts)
		}
		clear(first[i].Where)
	}
	third, _ := bind.Readings(tables, s)
	if !reflect.DeepEqual(second, third) || !reflect.DeepEqual(s, one(t, "select 1 from t where b in (1, 2) and c = 'x' and exists (select 1 from u where f)")) {
		t.Error("it was changed")
	}
}
