package relstore_test

import (
	"reflect"
	"strconv"
	"strings"
	"testing"

	"relstore/api"
	"relstore/disk"
	"relstore/relstore"
)

func run(s string, n int) string { return strings.Repeat(s, n) }

// quoted: a text of so many bytes, as a statement tells it.
func quoted(n int) string { return "'" + run("x", n) + "'" }

func opened(t testing.TB, d *disk.Disk, frames int) *relstore.Store {
	t.Helper()
	s, e := relstore.Open(d, frames)
	if e != api.OK || s == nil {
		t.Fatalf("Open: %v", e)
	}
	return s
}

// fresh: a session with a new store.
func fresh(t testing.TB) *relstore.Session {
	t.Helper()
	return opened(t, disk.New(), api.MinFrames).Session()
}

func show(v api.Value) string {
	switch v.Kind {
	case api.Bool:
		return strconv.FormatBool(v.N != 0)
	case api.Int:
		return strconv.FormatInt(v.N, 10)
	case api.Text:
		return "'" + v.S + "'"
	}
	return "null"
}

func showRow(row []api.Value) string {
	var l []string
	for _, v := range row {
		l = append(l, show(v))
	}
	return "[" + strings.Join(l, " ") + "]"
}

func showRows(rows [][]api.Value) string {
	s := ""
	for _, r := range rows {
		s += showRow(r)
	}
	if s == "" {
		return "-"
	}
	return s
}

// errors: the words for them.
func errorName(e api.Errno) string {
	l := []string{"OK", "Arg", "Down", "Space", "Damage", "Room", "Busy", "Missing", "Large", "Exists", "Conflict", "State", "Syntax", "Name", "Type", "Form", "Null", "Check", "Unique"}
	return l[e]
}

// told: results as a text: of each the rows of a query, or how many rows were turned, or the error.
func told(l []api.Result) string {
	var parts []string
	for _, r := range l {
		switch {
		case r.Err != api.OK:
			parts = append(parts, errorName(r.Err))
		case r.Kind == api.Query:
			parts = append(parts, showRows(r.Rows))
		default:
			parts = append(parts, strconv.Itoa(r.Count))
		}
	}
	return strings.Join(parts, " ")
}

func short(s string) string {
	if len(s) > 300 {
		return s[:300] + ".."
	}
	return s
}

// bare: a result that is refused has nothing but its kind and the error; others have nothing that is not theirs.
func bare(t testing.TB, r api.Result) {
	t.Helper()
	isQuery := r.Kind == api.Query && r.Err == api.OK
	counts := r.Kind == api.Insert || r.Kind == api.Update || r.Kind == api.Delete
	if !isQuery && (len(r.Columns) > 0 || len(r.Rows) > 0) || (!counts || r.Err != api.OK) && r.Count != 0 || isQuery && len(r.Columns) == 0 {
		t.Errorf("a result with more than its own: %+v", r)
	}
}

// does: what a session is told, and what it answers.
func does(t testing.TB, c *relstore.Session, text, want string) {
	t.Helper()
	l, e, at := c.Exec(text)
	if got := told(l); e != api.OK || at != 0 || got != want {
		t.Errorf("%s:\n%s (%v at %d), not\n%s", short(text), short(got), e, at, short(want))
	}
	for _, r := range l {
		bare(t, r)
	}
}

// pair: what a session is told, and what it answers.
type pair struct{ text, want string }

// doesAll, one behind the other.
func doesAll(t testing.TB, c *relstore.Session, l ...pair) {
	t.Helper()
	for _, p := range l {
		does(t, c, p.text, p.want)
	}
}

// same results, but for lists that have nothing in them.
func same(a, b api.Result) bool {
	return a.Kind == b.Kind && a.Err == b.Err && a.Count == b.Count && len(a.Columns) == len(b.Columns) && len(a.Rows) == len(b.Rows) &&
		(len(a.Columns) == 0 || reflect.DeepEqual(a.Columns, b.Columns)) && (len(a.Rows) == 0 || reflect.DeepEqual(a.Rows, b.Rows))
}

// fileOf a disk: its bytes.
func fileOf(t testing.TB, d *disk.Disk, f int) string {
	t.Helper()
	n, e := d.Size(f)
	if e != api.OK {
		t.Fatal("Size", e)
	}
	s, e := d.Read(f, 0, n)
	if e != api.OK {
		t.Fatal("Read", e)
	}
	return s
}

// twin: another disk with the same bytes.
func twin(t testing.TB, d *disk.Disk) *disk.Disk {
	t.Helper()
	other := disk.New()
	for f := range 2 {
		if other.Write(f, 0, fileOf(t, d, f)) != api.OK || other.Sync(f) != api.OK {
			t.Fatal("no twin")
		}
	}
	return other
}
