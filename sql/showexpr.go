package sql

import "relstore/api"

func showExpr(e api.Expr) string { return showAt(e, lineOr) }

func showExprs(l []api.Expr) string { return commas(l, showExpr) }

// showAt a place where expressions of this line may stand, and those that bind more.
func showAt(e api.Expr, line int) string {
	if lineOf(e.Op) < line {
		return inParens(showBare(e))
	}
	return showBare(e)
}

// lineOf an operation.
func lineOf(op int) int {
	switch op {
	case api.Not:
		return lineNot
	case api.Neg:
		return lineNeg
	}
	if o := operatorOf(op); o.line > 0 {
		return o.line
	}
	return linePart
}

// operatorOf an operation; on no line, if it has none.
func operatorOf(op int) operator {
	for _, o := range operators {
		if o.op == op {
			return o
		}
	}
	return operator{}
}

// showBare: without parentheses around it.
func showBare(e api.Expr) string {
	switch e.Op {
	case api.Neg:
		return glue("-", showAt(e.Args[0], lineNeg))
	case api.Not:
		return glue("not", showAt(e.Args[0], lineNot))
	case api.IsNull:
		return glue(showAt(e.Args[0], lineTest+1), "is null")
	case api.Between:
		return glue(showAt(e.Args[0], lineTest+1), "between", showAt(e.Args[1], lineTest+1), "and", showAt(e.Args[2], lineTest+1))
	case api.In:
		return glue(showAt(e.Args[0], lineTest+1), "in", showMembers(e))
	}
	if o := operatorOf(e.Op); o.line > 0 {
		return showTwo(e, o)
	}
	return showPart(e)
}

// showTwo: an operator between two. The first one may be of the operator's own line, as they are read from the left, but for tests.
func showTwo(e api.Expr, o operator) string {
	first := o.line
	if first == lineTest {
		first++
	}
	return glue(showAt(e.Args[0], first), o.word, showAt(e.Args[1], o.line+1))
}

func showMembers(e api.Expr) string {
	if len(e.Sub) > 0 {
		return inParens(showQuery(e.Sub[0]))
	}
	return inParens(showExprs(e.Args[1:]))
}

// showPart: an expression of the last line.
func showPart(e api.Expr) string {
	switch e.Op {
	case api.Lit:
		return showValue(e.Value)
	case api.Col:
		return showColumn(e)
	case api.Exists:
		return glue("exists", inParens(showQuery(e.Sub[0])))
	case api.Scalar:
		return inParens(showQuery(e.Sub[0]))
	case api.Case:
		return showChoice(e)
	case api.Cast:
		return glue("cast", inParens(showExpr(e.Args[0]), "as", kindWord(e.Form)))
	case api.Func:
		return glue(showName(e.Name), inParens(showExprs(e.Args)))
	case api.Agg:
		return glue(showName(e.Name), showGathered(e))
	}
	return ""
}

func showColumn(e api.Expr) string {
	if e.Table == "" {
		return showName(e.Name)
	}
	return glue(showName(e.Table), ".", showName(e.Name))
}

// showGathered: what an aggregate is of.
func showGathered(e api.Expr) string {
	if e.Form == aggAll {
		return "(*)"
	}
	return inParens(wordIf(e.Form == aggDistinct, "distinct"), showExpr(e.Args[0]))
}

// showChoice: a CASE.
func showChoice(e api.Expr) string {
	pieces, pairs, last := []string{"case"}, e.Args, ""
	if e.Form&caseHeld != 0 {
		pieces = append(pieces, showExpr(pairs[0]))
		pairs = pairs[1:]
	}
	if e.Form&caseElse != 0 {
		last = glue("else", showExpr(pairs[len(pairs)-1]))
		pairs = pairs[:len(pairs)-1]
	}
	for i := 0; i < len(pairs); i += 2 {
		pieces = append(pieces, "when", showExpr(pairs[i]), "then", showExpr(pairs[i+1]))
	}
	return glue(append(pieces, last, "end")...)
}
