package sql_test

import (
	"testing"

	"relstore/api"
)

// P15: what binds how.
func TestBinding(t *testing.T) {
	a, b, c, d := col("a"), col("b"), col("c"), col("d")
	for s, want := range map[string]api.Expr{
		"a or b or c":                of(api.Or, of(api.Or, a, b), c),
		"a or (b or c)":              of(api.Or, a, of(api.Or, b, c)),
		"a and b and c":              of(api.And, of(api.And, a, b), c),
		"a or b and c or d":          of(api.Or, of(api.Or, a, of(api.And, b, c)), d),
		"(a or b) and c":             of(api.And, of(api.Or, a, b), c),
		"not a or b":                 of(api.Or, of(api.Not, a), b),
		"not a and not b":            of(api.And, of(api.Not, a), of(api.Not, b)),
		"a or not b and c":           of(api.Or, a, of(api.And, of(api.Not, b), c)),
		"not not not a":              of(api.Not, of(api.Not, of(api.Not, a))),
		"not (a and b)":              of(api.Not, of(api.And, a, b)),
		"not a = b":                  of(api.Not, of(api.Eq, a, b)),
		"(not a) = b":                of(api.Eq, of(api.Not, a), b),
		"a = (not b)":                of(api.Eq, a, of(api.Not, b)),
		"not a is null":              of(api.Not, of(api.IsNull, a)),
		"not a is not null":          of(api.Not, of(api.Not, of(api.IsNull, a))),
		"a = b and c < d":            of(api.And, of(api.Eq, a, b), of(api.Lt, c, d)),
		"a = b or c is null":         of(api.Or, of(api.Eq, a, b), of(api.IsNull, c)),
		"(a = b) = c":                of(api.Eq, of(api.Eq, a, b), c),
		"a = (b = c)":                of(api.Eq, a, of(api.Eq, b, c)),
		"(a is null) is null":        of(api.IsNull, of(api.IsNull, a)),
		"a || b = c || d":            of(api.Eq, of(api.Concat, a, b), of(api.Concat, c, d)),
		"a || b || c":                of(api.Concat, of(api.Concat, a, b), c),
		"a || b + c || d":            of(api.Concat, of(api.Concat, a, of(api.Add, b, c)), d),
		"a + b - c + d":              of(api.Add, of(api.Sub, of(api.Add, a, b), c), d),
		"a - (b - c)":                of(api.Sub, a, of(api.Sub, b, c)),
		"a + b * c - d":              of(api.Sub, of(api.Add, a, of(api.Mul, b, c)), d),
		"(a || b) + c":               of(api.Add, of(api.Concat, a, b), c),
		"a * b / c % d":              of(api.Mod, of(api.Div, of(api.Mul, a, b), c), d),
		"a * (b + c)":                of(api.Mul, a, of(api.Add, b, c)),
		"- a + b":                    of(api.Add, of(api.Neg, a), b),
		"- a * - b":                  of(api.Mul, of(api.Neg, a), of(api.Neg, b)),
		"a - - b":                    of(api.Sub, a, of(api.Neg, b)),
		"a - - - b - c":              of(api.Sub, of(api.Sub, a, of(api.Neg, of(api.Neg, b))), c),
		"- (a + b)":                  of(api.Neg, of(api.Add, a, b)),
		"- a.b":                      of(api.Neg, api.Expr{Op: api.Col, Table: "a", Name: "b"}),
		"a between b and c":          of(api.Between, a, b, c),
		"a between b and c and d":    of(api.And, of(api.Between, a, b, c), d),
		"a between b and c or d":     of(api.Or, of(api.Between, a, b, c), d),
		"a between b + 1 and c || d": of(api.Between, a, of(api.Add, b, num(1)), of(api.Concat, c, d)),
		"a + b between - c and d":    of(api.Between, of(api.Add, a, b), of(api.Neg, c), d),
		"a between (b and c) and d":  of(api.Between, a, of(api.And, b, c), d),
		"a like b || c and d":        of(api.And, of(api.Like, a, of(api.Concat, b, c)), d),
		"a in (b) and c":             of(api.And, of(api.In, a, b), c),
		"a + b in (c, d)":            of(api.In, of(api.Add, a, b), c, d),
		"a in (b or c, not d)":       of(api.In, a, of(api.Or, b, c), of(api.Not, d)),
		"a in ((b), (c))":            of(api.In, a, b, c),
		"a not in (b)":               of(api.Not, of(api.In, a, b)),
		"not a not like b":           of(api.Not, of(api.Not, of(api.Like, a, b))),
		"a not between b and c":      of(api.Not, of(api.Between, a, b, c)),
		"((((a))))":                  a,
		"((a) + ((b)))":              of(api.Add, a, b),
	} {
		read(t, "select "+s, only(want))
	}
}

// P15: what an expression begins with, and what it has.
func TestParts(t *testing.T) {
	a, b, c := col("a"), col("b"), col("c")
	one := []api.Select{query(items(num(1)))}
	for s, want := range map[string]api.Expr{
		"0":                             num(0),
		"''":                            lit(text("")),
		"null":                          lit(api.Value{}),
		"True":                          lit(truth(true)),
		"FALSE":                         lit(truth(false)),
		"a.b":                           {Op: api.Col, Table: "a", Name: "b"},
		`"A" . "null"`:                  {Op: api.Col, Table: "A", Name: "null"},
		"count":                         col("count"),
		"sum.max":                       {Op: api.Col, Table: "sum", Name: "max"},
		"f()":                           {Op: api.Func, Name: "f"},
		"F ( a )":                       {Op: api.Func, Name: "f", Args: []api.Expr{a}},
		`"F"(a, b, c)`:                  {Op: api.Func, Name: "F", Args: []api.Expr{a, b, c}},
		`"left"(a, f())`:                {Op: api.Func, Name: "left", Args: []api.Expr{a, {Op: api.Func, Name: "f"}}},
		"f((select 1))":                 {Op: api.Func, Name: "f", Args: []api.Expr{{Op: api.Scalar, Sub: one}}},
		"COUNT(*)":                      {Op: api.Agg, Name: "count", Form: 2},
		"avg(*)":                        {Op: api.Agg, Name: "avg", Form: 2},
		"sum(a or b)":                   {Op: api.Agg, Name: "sum", Args: []api.Expr{of(api.Or, a, b)}},
		"min(distinct a)":               {Op: api.Agg, Name: "min", Form: 1, Args: []api.Expr{a}},
		"max(distinct (a))":             {Op: api.Agg, Name: "max", Form: 1, Args: []api.Expr{a}},
		"count(count(*))":               {Op: api.Agg, Name: "count", Args: []api.Expr{{Op: api.Agg, Name: "count", Form: 2}}},
		`"count"(a)`:                    {Op: api.Agg, Name: "count", Args: []api.Expr{a}},
		`"COUNT"(a)`:                    {Op: api.Func, Name: "COUNT", Args: []api.Expr{a}},
		"counts(a)":                     {Op: api.Func, Name: "counts", Args: []api.Expr{a}},
		"case when a then b end":        {Op: api.Case, Args: []api.Expr{a, b}},
		"case a when b then c end":      {Op: api.Case, Form: 1, Args: []api.Expr{a, b, c}},
		"case when a then b else c end": {Op: api.Case, Form: 2, Args: []api.Expr{a, b, c}},
		"case a when b then c when 1 then 2 else 3 end":              {Op: api.Case, Form: 3, Args: []api.Expr{a, b, c, num(1), num(2), num(3)}},
		"case case when a then b end when b then c end":              {Op: api.Case, Form: 1, Args: []api.Expr{{Op: api.Case, Args: []api.Expr{a, b}}, b, c}},
		"case - a when not b then a or b else a between b and c end": {Op: api.Case, Form: 3, Args: []api.Expr{of(api.Neg, a), of(api.Not, b), of(api.Or, a, b), of(api.Between, a, b, c)}},
		"cast(a as boolean)":      {Op: api.Cast, Form: api.Bool, Args: []api.Expr{a}},
		"cast(a or b as INTEGER)": {Op: api.Cast, Form: api.Int, Args: []api.Expr{of(api.Or, a, b)}},
		"cast ( null as text )":   {Op: api.Cast, Form: api.Text, Args: []api.Expr{lit(api.Value{})}},
		"exists (select 1)":       {Op: api.Exists, Sub: one},
		"not exists(select 1)":    of(api.Not, api.Expr{Op: api.Exists, Sub: one}),
		"(select 1)":              {Op: api.Scalar, Sub: one},
		"(((select 1)))":          {Op: api.Scalar, Sub: one},
		"(select 1) + 1":          of(api.Add, api.Expr{Op: api.Scalar, Sub: one}, num(1)),
		"a in (select 1)":         {Op: api.In, Args: []api.Expr{a}, Sub: one},
		"a not in (select 1)":     of(api.Not, api.Expr{Op: api.In, Args: []api.Expr{a}, Sub: one}),
		"a in ((select 1))":       of(api.In, a, api.Expr{Op: api.Scalar, Sub: one}),
		"a in ((select 1), b)":    of(api.In, a, api.Expr{Op: api.Scalar, Sub: one}, b),
		"a is null":               of(api.IsNull, a),
		"a is not null":           of(api.Not, of(api.IsNull, a)),
		"a not like 'x'":          of(api.Not, of(api.Like, a, lit(text("x")))),
	} {
		read(t, "select "+s, only(want))
		read(t, "delete from t where "+s, api.Stmt{Kind: api.Delete, Table: "t", Where: []api.Expr{want}})
		// What an item may begin with is read by itself.
		read(t, "select 1, "+s+" from t", ask(query(api.Core{Items: []api.Item{{Expr: num(1)}, {Expr: want}}, From: []api.From{{Join: api.Cross, Table: "t"}}})))
	}
}
