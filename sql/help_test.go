package sql_test

import (
	"reflect"
	"strings"
	"testing"

	"relstore/api"
	"relstore/sql"
)

func truth(is bool) api.Value {
	if is {
		return api.Value{Kind: api.Bool, N: 1}
	}
	return api.Value{Kind: api.Bool}
}

func number(n int64) api.Value { return api.Value{Kind: api.Int, N: n} }

func text(s string) api.Value { return api.Value{Kind: api.Text, S: s} }

func run(s string, n int) string { return strings.Repeat(s, n) }

// short form of a text.
func short(s string) string {
	if len(s) > 3000 {
		return s[:3000] + " .."
	}
	return s
}

// parsed: the statements of a text that must have some.
func parsed(t *testing.T, text string) []api.Stmt {
	t.Helper()
	l, e, at := sql.Parse(text)
	if e != api.OK || at != 0 {
		t.Fatalf("%s: %v at %d", short(text), e, at)
	}
	return l
}

// refused: a text must be refused with this error at this place.
func refused(t *testing.T, source string, want api.Errno, at int) {
	t.Helper()
	if l, e, place := sql.Parse(source); e != want || place != at || len(l) > 0 {
		t.Errorf("%s: %v at %d, and %d statements; want %v at %d", short(source), e, place, len(l), want, at)
	}
}

// read: a text must be read as these statements.
func read(t *testing.T, source string, want ...api.Stmt) {
	t.Helper()
	l, e, at := sql.Parse(source)
	if e != api.OK || at != 0 || !same(l, want) {
		t.Errorf("%s: %v at %d\n%+v\nnot\n%+v", short(source), e, at, l, want)
	}
}

// ask: a statement that is a query.
func ask(q api.Select) api.Stmt { return api.Stmt{Kind: api.Query, Query: []api.Select{q}} }

// query of these cores.
func query(cores ...api.Core) api.Select { return api.Select{Cores: cores, Limit: -1} }

// items: a core of expressions.
func items(l ...api.Expr) api.Core {
	var c api.Core
	for _, e := range l {
		c.Items = append(c.Items, api.Item{Expr: e})
	}
	return c
}

// only: the statement that asks for these expressions.
func only(l ...api.Expr) api.Stmt { return ask(query(items(l...))) }

func lit(v api.Value) api.Expr { return api.Expr{Op: api.Lit, Value: v} }

func num(n int64) api.Expr { return lit(number(n)) }

func col(name string) api.Expr { return api.Expr{Op: api.Col, Name: name} }

func of(op int, parts ...api.Expr) api.Expr { return api.Expr{Op: op, Args: parts} }

// same: lists that have nothing in them may be nil or empty.
func same(a, b any) bool { return alike(reflect.ValueOf(a), reflect.ValueOf(b)) }

func alike(a, b reflect.Value) bool {
	switch a.Kind() {
	case reflect.Slice:
		if a.Len() != b.Len() {
			return false
		}
		for i := range a.Len() {
			if !alike(a.Index(i), b.Index(i)) {
				return false
			}
		}
		return true
	case reflect.Struct:
		for i := range a.NumField() {
			if !alike(a.Field(i), b.Field(i)) {
				return false
			}
		}
		return true
	}
	return a.Equal(b)
}
