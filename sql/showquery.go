package sql

import (
	"strconv"

	"relstore/api"
)

func showQuery(q api.Select) string {
	pieces := []string{showCore(q.Cores[0])}
	for i, op := range q.Ops {
		pieces = append(pieces, setWord(op), showCore(q.Cores[i+1]))
	}
	if len(q.Order) > 0 {
		pieces = append(pieces, "order by", commas(q.Order, showOrder))
	}
	if q.Limit >= 0 {
		pieces = append(pieces, "limit", strconv.FormatInt(q.Limit, 10))
	}
	if q.Offset > 0 {
		pieces = append(pieces, "offset", strconv.FormatInt(q.Offset, 10))
	}
	return glue(pieces...)
}

func setWord(op int) string {
	switch op {
	case api.Union:
		return "union"
	case api.UnionAll:
		return "union all"
	case api.Intersect:
		return "intersect"
	case api.Except:
		return "except"
	}
	return ""
}

func showOrder(o api.Order) string { return glue(showExpr(o.Expr), wordIf(o.Desc, "desc")) }

func showCore(c api.Core) string {
	pieces := []string{"select", wordIf(c.Distinct, "distinct"), commas(c.Items, showItem)}
	if len(c.From) > 0 {
		pieces = append(pieces, "from", showFrom(c.From))
	}
	pieces = append(pieces, showClause("where", c.Where))
	if len(c.Group) > 0 {
		pieces = append(pieces, "group by", showExprs(c.Group))
	}
	return glue(append(pieces, showClause("having", c.Having))...)
}

func showItem(i api.Item) string {
	switch {
	case !i.Star:
		return glue(showExpr(i.Expr), showAlias(i.As))
	case i.Table != "":
		return glue(showName(i.Table), ".*")
	}
	return "*"
}

// showAlias; or nothing.
func showAlias(as string) string {
	if as == "" {
		return ""
	}
	return showName(as)
}

func showFrom(l []api.From) string {
	pieces := []string{showSource(l[0])}
	for _, f := range l[1:] {
		pieces = append(pieces, joinWord(f.Join), showSource(f), showClause("on", f.On))
	}
	return glue(pieces...)
}

func joinWord(join int) string {
	switch join {
	case api.Inner:
		return "join"
	case api.Left:
		return "left join"
	}
	return ","
}

func showSource(f api.From) string {
	if len(f.Sub) > 0 {
		return glue(inParens(showQuery(f.Sub[0])), showAlias(f.As))
	}
	return glue(showName(f.Table), showAlias(f.As))
}
