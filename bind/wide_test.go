package bind_test

import (
	"math/big"
	"strings"
	"testing"

	"relstore/api"
	"relstore/bind"
	"relstore/sql"
)

// wide: a query within others, each of which tells all columns of its source so many times.
func wide(stars, deep int) string {
	all := strings.TrimSuffix(run("*,", stars), ",")
	return run("select "+all+" from (", deep) + "select a from t" + run(") x", deep)
}

// aside: an expression over two cores whose wide parts stand behind another column.
func aside(expr string) string {
	core := "select 'z' as z, * from (select *, 7 as q from (" + wide(2, 40) + ") x) y"
	return "select " + expr + " from (" + core + " union " + core + ") w"
}

// power of a number, in digits; and more.
func power(n, of, more int64) string {
	p := new(big.Int).Exp(big.NewInt(n), big.NewInt(of), nil)
	return p.Add(p, big.NewInt(more)).String()
}

// P17: `*` is all columns, however many these are.
func TestWideColumns(t *testing.T) {
	tables := made(t, schema)
	for _, x := range [][2]int{{2, 1}, {2, 5}, {2, 14}, {2, 20}, {3, 12}, {7, 6}, {1, 57}, {9000, 1}} {
		l, e := bind.Columns(tables, one(t, wide(x[0], x[1])).Query[0])
		want := new(big.Int).Exp(big.NewInt(int64(x[0])), big.NewInt(int64(x[1])), nil)
		if e != api.OK || int64(len(l)) != want.Int64() {
			t.Fatal(x, len(l), e)
		}
		for i, c := range l {
			if c != (api.Column{Name: "a", Kind: api.Int}) {
				t.Fatal(x, i, c)
			}
		}
	}
	expectColumns(t, tables, "select *, x.*, 1, y.*, * from (select *, 'x' as s, * from (select a, d from t) x) x, (select g from v) y", columns("a:i d:b s:t a:i d:b g:i a:i d:b s:t a:i d:b column12:i g:i a:i d:b s:t a:i d:b g:i")...)
	expectColumns(t, tables, "select *, * from (select a, d from t) x union select null, null, y.* from (select b, d from t) y", columns("a:i d:b a:i d:b")...)
	expectColumns(t, tables, "select *, * from (select a, null as n from t) x union select *, 'x', y.b, true from (select b from t) y", columns("a:i n:t a:i n:b")...)
}

// P17: queries with more columns than could ever be written out mean something, too; just Columns has no memory for them.
func TestEndlessColumns(t *testing.T) {
	tables := made(t, schema)
	far := "column" + power(3, 50, 1)
	for _, x := range []told{
		{wide(2, 28), api.OK}, {wide(2, 57), api.OK}, {wide(3, 50), api.OK}, {wide(150, 57), api.OK},
		{"select 1 from (" + wide(2, 50) + ") y", api.OK}, {"select exists (" + wide(2, 50) + ")", api.OK}, {"select y.* from (" + wide(2, 50) + ") y, t", api.OK}, {"select 1 in (" + wide(2, 50) + ")", api.ErrForm}, {"select (" + wide(2, 50) + ")", api.ErrForm}, {"select (" + wide(1, 50) + ")", api.OK}, {"insert into t " + wide(2, 50), api.ErrForm}, {"insert into t (a, b) " + wide(2, 1), api.OK}, {"insert into t (a, c) " + wide(2, 1), api.ErrType},
		// None of them has a name of its own.
		{"select a from (" + wide(2, 50) + ") y", api.ErrName}, {"select a from (" + wide(1, 50) + ") y", api.OK}, {"select y.a from (" + wide(2, 50) + ") y", api.ErrName}, {"select b from (" + wide(2, 50) + ") y, (select 1 as b) z", api.OK}, {"select 1 from (" + wide(2, 50) + ") y group by a", api.ErrName}, {"select * from (" + wide(2, 50) + ") y group by 1", api.ErrForm}, {"select *, * from (" + wide(1, 50) + ") y group by a", api.OK}, {"select *, * from (" + wide(1, 50) + ") y, u group by y.a", api.ErrForm}, {"select * from (" + wide(2, 50) + ") y group by column1", api.ErrName},
		{wide(2, 50) + " order by 1, 9223372036854775807", api.ErrForm}, {wide(2, 50) + " order by " + power(2, 50, 0), api.OK}, {wide(2, 50) + " order by " + power(2, 50, 1), api.ErrForm}, {wide(3, 50) + " order by 9223372036854775807", api.OK}, {wide(2, 50) + " order by a", api.OK}, {wide(2, 50) + " order by t.a", api.ErrName},
		// How many there are is told by the names of those behind them.
		{"select column" + power(2, 50, 1) + " from (select *, 1 from (" + wide(2, 50) + ") y) z", api.OK}, {"select column" + power(2, 50, 0) + " from (select *, 1 from (" + wide(2, 50) + ") y) z", api.ErrName}, {"select " + far + " from (select *, 1 from (" + wide(3, 50) + ") y) z", api.OK}, {"select " + far + " || 'x' from (select *, 1 from (" + wide(3, 50) + ") y) z", api.ErrType}, {"select " + far + " from (select *, 1, * from (" + wide(3, 50) + ") y) z", api.OK}, {"select " + far + " from (select *, * from (select *, 1 from (" + wide(3, 50) + ") y) z) w", api.ErrName},
		// Several cores.
		{wide(2, 50) + " union " + wide(2, 50), api.OK}, {wide(2, 50) + " union " + wide(2, 49), api.ErrForm}, {wide(4, 25) + " union " + wide(2, 50) + " union all " + wide(2, 50), api.OK}, {wide(3, 50) + " union select *, 1 from (" + wide(3, 50) + ") y", api.ErrForm}, {strings.ReplaceAll(wide(2, 50), "a from", "null from") + " union " + wide(2, 50), api.OK}, {strings.ReplaceAll(wide(2, 50), "a from", "c from") + " union " + wide(2, 50), api.ErrType}, {strings.ReplaceAll(wide(2, 50), "a from", "null from") + " union " + wide(2, 50) + " union " + strings.ReplaceAll(wide(2, 50), "a from", "c from"), api.ErrType},
		// Parts of one core stand to those of another one elsewhere than in the whole list.
		{"select a from (" + wide(2, 50) + " union " + wide(2, 50) + ") y", api.ErrName}, {"select a from (select *, 1 as z from (" + wide(2, 50) + ") x union select *, 1 from (" + wide(2, 50) + ") x) y", api.ErrName}, {"select z + 1 from (select *, 1 as z from (" + wide(2, 50) + ") x union select *, 1 from (" + wide(2, 50) + ") x) y", api.OK}, {aside("q + 1"), api.OK}, {aside("q || 'x'"), api.ErrType}, {aside("z || 'x'"), api.OK}, {aside("z + 1"), api.ErrType}, {aside("a"), api.ErrName},
		{"select *, 1 from (" + wide(2, 20) + ") y union select 1, * from (" + wide(2, 20) + ") y", api.OK}, {"select *, 1 from (" + wide(2, 20) + ") y union select 'x', * from (" + wide(2, 20) + ") y", api.ErrType}, {"select *, 'x' from (" + wide(2, 20) + ") y union select 1, * from (" + wide(2, 20) + ") y", api.ErrType}, {"select 1 from (select *, 1 from (" + wide(2, 20) + ") y union select 1, * from (" + wide(2, 20) + ") y) z where a", api.ErrName},
	} {
		s := one(t, x.text)
		if e := bind.Check(tables, s); e != x.want {
			t.Errorf("%.60s .. %s: %v, not %v", x.text, x.text[max(0, len(x.text)-40):], e, x.want)
		}
	}
	for _, text := range []string{wide(2, 28), wide(2, 57), wide(3, 50), "select * from (" + wide(2, 50) + " union " + wide(2, 50) + ") x", "select *, 1 from (" + wide(2, 40) + ") x"} {
		if l, e := bind.Columns(tables, one(t, text).Query[0]); len(l) > 0 || e != api.ErrLarge {
			t.Errorf("%.60s: %d columns, %v", text, len(l), e)
		}
	}
}

// within: a query of these items over a query.
func within(items, query string) string { return "select " + items + " from (" + query + ") x" }

// nested: a query of these items over another one of them, and so on, so many times, over a query.
func nested(items string, deep int, query string) string {
	for range deep {
		query = within(items, query)
	}
	return query
}

// P17: cores of as many columns, whose stars do not begin at the same places.
func TestShiftedCores(t *testing.T) {
	tables := made(t, schema)
	ints := wide(2, 20)
	ruler := nested("*, 'x', *", 25, ints)
	for _, x := range []struct {
		first, second string
		want          api.Errno
	}{
		{within("*, 1", wide(2, 50)), within("1, *", wide(2, 50)), api.OK},
		{within("*, 'x'", wide(2, 50)), within("1, *", wide(2, 50)), api.ErrType},
		{within("*, 1", wide(2, 50)), within("'x', *", wide(2, 50)), api.ErrType},
		{within("*, *, 1", wide(2, 56)), within("1, *, *", wide(2, 56)), api.OK},
		{within("*, *, 'x'", wide(2, 56)), within("1, *, *", wide(2, 56)), api.ErrType},
		{within("*, 1, 2, null", wide(60, 55)), within("true, *, null, 1", wide(60, 55)), api.ErrType},
		{within("*, 1, 2, null", wide(60, 55)), within("null, *, null, 1", wide(60, 55)), api.OK},
		// The same numbers of stars, in another order.
		{nested("*, *", 20, nested("*, *, *", 20, "select a from t")), nested("*, *, *", 20, nested("*, *", 20, "select a from t")), api.OK},
		{nested("*, *", 20, nested("*, *, *", 20, "select a, c, b from t")), nested("*, *, *", 20, nested("*, *", 20, "select b, c, a from t")), api.OK},
		{nested("*, *", 20, nested("*, *, *", 20, "select a, c, b from t")), nested("*, *, *", 20, nested("*, *", 20, "select b, a, c from t")), api.ErrType},
		{nested("*, *", 20, nested("*, *, *", 20, "select a, c, b, d, a from t")), nested("*, *, *", 20, nested("*, *, *, *, *", 1, nested("*, *", 20, "select null from t"))), api.OK},
		// A text far within.
		{within("*, 'x', *", wide(2, 40)), within("*, *, 'x', *, *", wide(2, 39)), api.OK},
		{within("*, 'x', *", wide(2, 40)), within("*, 'x', *, *, *", wide(2, 39)), api.ErrType},
		{within("*, 'x', *", wide(2, 40)), within("*, *, null, *, *", wide(2, 39)), api.OK},
		{within("*, null, *", wide(2, 40)), within("*, *, 'x', *, *", wide(2, 39)), api.OK},
		{within("*, 'x', *", wide(4, 20)), within("*, *, *, 'x', *, *, *, 1", wide(2, 38)), api.ErrForm},
		{within("*, 'x', *, 1", wide(4, 20)), within("1, *, 'x', *", wide(4, 20)), api.ErrType},
		{within("1, *, 'x', *", wide(4, 20)), within("*, 1, 'x', *", wide(4, 20)), api.OK},
		// Texts at places that are told level by level, or again and again.
		{within("*, 'x'", ruler), nested("*, *", 25, within("*, 'x'", ints)), api.OK},
		{within("'x', *", ruler), nested("*, *", 25, within("*, 'x'", ints)), api.ErrType},
		{within("'x', *", ruler), nested("*, *", 25, within("'x', *", ints)), api.OK},
		{nested("*, *", 25, within("*, 'x'", ints)), within("*, 'x'", ruler), api.OK},
		{nested("*, *", 25, within("*, null", ints)), within("*, 'x'", ruler), api.OK},
		{within("*, null", ruler), nested("*, *", 25, within("*, 1", ints)), api.ErrType},
		{nested("*, 1, *", 50, "select a from t"), nested("1, *, *", 50, "select a from t"), api.OK},
		{nested("*, 1, *", 50, "select a from t"), nested("*, *, 1", 50, "select 'x' from t"), api.ErrType},
		{nested("*, null, *", 50, "select a from t"), nested("1, *, *", 50, "select null from t"), api.OK},
		{nested("*, null, *", 50, "select null from t"), nested("'x', *, *", 50, "select 'x' from t"), api.OK},
		{nested("*, null, *", 50, "select null from t"), nested("'x', *, *", 50, "select null from t"), api.OK},
		{nested("*, null, *", 50, "select null from t"), within("*, 1", nested("'x', *, *", 50, "select 'x' from t")), api.ErrForm},
		// Kinds are what the cores ahead have left.
		{within("*, *, null", wide(2, 50)) + " union " + within("*, 'x', *", wide(2, 50)), within("*, *, 1", wide(2, 50)), api.ErrType},
		{within("*, *, null", wide(2, 50)) + " union " + within("null, *, *", wide(2, 50)), within("1, *, *", wide(2, 50)), api.OK},
		{within("null, *, *", nested("*, *", 40, "select null")) + " union " + within("*, 'x', *", nested("*, *", 40, "select null")), within("*, 'x', *", nested("*, *", 40, "select null")), api.OK},
		{within("null, *, *", nested("*, *", 40, "select null")) + " union " + within("*, 'x', *", nested("*, *", 40, "select null")), within("*, 1, *", nested("*, *", 40, "select null")), api.ErrType},
	} {
		text := x.first + " union " + x.second
		s := one(t, text)
		if e := bind.Check(tables, s); e != x.want {
			t.Errorf("%.60s .. %.60s ..: %v, not %v", x.first, x.second, e, x.want)
		}
		// What the columns of all cores are is known then, too.
		if _, e := bind.Resolve(tables, s.Query[0]); e != x.want {
			t.Errorf("Resolve: %.60s .. %.60s ..: %v, not %v", x.first, x.second, e, x.want)
		}
		if x.want == api.OK {
			expect(t, tables, "select 1 from ("+text+") w where exists (select 1)", api.OK)
			expect(t, tables, "select a from ("+text+") w", api.ErrName)
		}
	}
}

// P17: cores whose columns are made in ways that have nothing in common: what is of one kind, or null, is alike, however it stands.
func TestSwappedCores(t *testing.T) {
	tables := made(t, schema)
	for _, x := range []struct {
		first, second string // items of two queries, one within another one so many times
		form          string
		want          api.Errno
	}{
		{"*, 1, *", "*, *, 2, *", "select x.*, y.* $ union all select y.*, x.* $", api.OK},
		{"*, null, *", "*, *, null, *", "select x.*, y.* $ union all select y.*, x.* $", api.OK},
		{"*, null, *", "*, *, 2, *", "select x.*, y.* $ union all select y.*, x.* $ union select x.*, y.* $", api.OK},
		{"*, null, *", "*, *, null, *", "select x.*, 'x', y.* $ union all select x.*, null, y.* $", api.OK},
		{"*, null, *", "*, *, null, *", "select x.*, y.*, null $ union all select y.*, x.*, 'x' $ union all select x.*, y.*, null $", api.OK},
		{"*, null, *", "*, *, null, *", "select x.*, y.*, null $ union all select y.*, x.*, 'x' $ union all select x.*, y.*, 1 $", api.ErrType},
		{"*, null, *", "*, *, null, *", "select x.*, y.*, 1 $ union all select y.*, x.*, 'x' $", api.ErrType},
		{"*, 'x', *", "*, *, 'x', *", "select x.*, y.* $ union all select y.*, x.* $", api.ErrType},
		{"*, null, *", "*, *, null, *", "select z + 1 from (select null as z, x.*, y.* $ union all select 1, y.*, x.* $) w", api.OK},
		{"*, null, *", "*, *, null, *", "select z + 1 from (select null as z, x.*, y.* $ union all select 'x', y.*, x.* $) w", api.ErrType},
		{"*, null, *", "*, *, null, *", "select z || 'x' from (select x.*, y.*, null as z $ union all select y.*, x.*, null $ union all select y.*, x.*, 'x' $) w", api.OK},
		{"*, null, *", "*, *, null, *", "select z || 'x' from (select x.*, y.*, null as z $ union all select y.*, x.*, null $ union all select y.*, x.*, 1 $) w", api.ErrType},
	} {
		for _, deep := range [][2]int{{2, 1}, {4, 3}, {14, 9}, {30, 19}} {
			sources := "from (" + nested(x.first, deep[0], "select a from t") + ") x, (" + nested(x.second, deep[1], "select a from t") + ") y"
			text := strings.ReplaceAll(x.form, "$", sources)
			if e := bind.Check(tables, one(t, text)); e != x.want {
				t.Errorf("%s %s %s %v: %v, not %v", x.first, x.second, x.form, deep, e, x.want)
			}
		}
	}
}

// P17: the columns of unions of stars that are longer than a short list, held against the model.
func TestLongUnions(t *testing.T) {
	tables := made(t, schema)
	for _, x := range [][2]string{
		{wide(2, 13), wide(2, 13)}, {wide(2, 12), wide(4, 6)}, {wide(8, 4), wide(2, 12)}, {wide(12, 3), wide(1728, 1)},
		{"select *, 1 as q from (" + wide(2, 12) + ") y", "select 1, * from (" + wide(2, 12) + ") y"},
		{"select 1, *, *, null from (" + wide(2, 11) + ") y", "select *, null, 1 from (" + wide(2, 12) + ") y"},
		{"select *, * from (select *, 1 as q from (" + wide(2, 11) + ") y) z", "select *, *, 1, 2 from (" + wide(2, 11) + ") y"},
		{"select *, * from (select null as n, * from (" + wide(3, 7) + ") y, u) z", "select *, * from (select *, e as q from (" + wide(3, 7) + ") y, (select a, b, e, f from t, u where t.a = u.a) w) z"},
	} {
		for _, form := range []string{"$ union $", "select 1 from ($ union $) w where q is null", "select *, * from ($ except $) w"} {
			s := one(t, fill(form, x[0], x[1]))
			if e := held(t, tables, s); t.Failed() {
				t.Fatalf("%.80s: %v", sql.Print(s), e)
			}
		}
	}
}

// P17: cores whose kinds come again and again, though they are made in ways that have nothing in common.
func TestAlternatingCores(t *testing.T) {
	tables := made(t, schema)
	for _, x := range []struct {
		first, second [2]string // items, and the query within
		form          string
		want          api.Errno
	}{
		{[2]string{"*, 'x', *", "select a from t"}, [2]string{"*, 'x', *, 'x', *", "select b from t"}, "select x.*, 'x', y.* $ union all select y.*, 'x', x.* $", api.OK},
		{[2]string{"*, 'x', *", "select a from t"}, [2]string{"*, 'x', *, 'x', *", "select b from t"}, "select x.*, 'x', y.* $ union all select y.*, 1, x.* $", api.ErrType},
		{[2]string{"*, 'x', *", "select a from t"}, [2]string{"*, 'x', *, 'x', *", "select b from t"}, "select 'x', x.*, y.* $ union all select y.*, x.*, 'x' $", api.ErrType},
		{[2]string{"*, true, null, *", "select a from t"}, [2]string{"*, true, 'x', *, true, 'x', *", "select b from t"}, "select x.*, null, null, y.* $ union all select y.*, true, 'x', x.* $", api.OK},
		{[2]string{"*, true, null, *", "select a from t"}, [2]string{"*, true, 'x', *, true, 'x', *", "select b from t"}, "select x.*, null, null, y.* $ union all select y.*, true, 'x', x.* $ union all select y.*, null, 1, x.* $", api.ErrType},
		{[2]string{"*, true, null, *", "select a from t"}, [2]string{"*, true, 'x', *, true, 'x', *", "select b from t"}, "select x.*, null, null, y.* $ union all select x.*, true, null, y.* $ union all select y.*, null, 'x', x.* $", api.OK},
		// Texts at even places, numbers at odd ones.
		{[2]string{"*, null, *", "select c from t"}, [2]string{"*, 1, *, 1, *", "select null"}, "select x.*, null, y.* $ union all select y.*, null, x.* $", api.OK},
		{[2]string{"*, null, *", "select c from t"}, [2]string{"*, 1, *, 1, *", "select null"}, "select x.*, null, y.* $ union all select null, y.*, x.* $", api.ErrType},
		{[2]string{"*, null, *", "select c from t"}, [2]string{"*, 1, *, 1, *", "select null"}, "select x.*, null, y.* $ union all select y.*, null, x.* $ union all select null, x.*, y.* $", api.ErrType},
		{[2]string{"*, *, null, null", "select c, c from t"}, [2]string{"*, *, *, 1, 1", "select null, null, 1, 1"}, "select x.*, y.* $ union all select null, null, y.*, x.* $", api.ErrForm},
	} {
		for _, deep := range [][2]int{{2, 1}, {4, 3}, {14, 9}, {28, 17}} {
			sources := "from (" + nested(x.first[0], deep[0], x.first[1]) + ") x, (" + nested(x.second[0], deep[1], x.second[1]) + ") y"
			s := one(t, strings.ReplaceAll(x.form, "$", sources))
			if e := bind.Check(tables, s); e != x.want {
				t.Errorf("%v %v %s %v: %v, not %v", x.first, x.second, x.form, deep, e, x.want)
			}
			if _, e := bind.Columns(tables, s.Query[0]); deep[0] < 10 && e != x.want {
				t.Errorf("Columns: %v %v %s %v: %v, not %v", x.first, x.second, x.form, deep, e, x.want)
			}
		}
	}
}

// P1: what would take too long ends, too: columns of cores that are made in ways that have nothing in common, if it must be known which ones stand at the same places.
func TestEndlessMatch(t *testing.T) {
	tables := made(t, schema)
	sources := "from (" + nested("*, 1, *", 40, "select a from t") + ") x, (" + nested("*, *, 2, *", 25, "select a from t") + ") y"
	s := one(t, "select x.*, y.* "+sources+" union all select y.*, x.* "+sources)
	if e := bind.Check(tables, s); e != api.OK {
		t.Errorf("Check: %v", e)
	}
	if _, e := bind.Resolve(tables, s.Query[0]); e != api.ErrLarge {
		t.Errorf("Resolve: %v", e)
	}
}
