package sql_test

import (
	"cmp"
	"math"
	"math/rand"
	"reflect"
	"slices"
	"strconv"
	"strings"
	"testing"

	"relstore/api"
	"relstore/sql"
)

// held: what must be so of any text.
func held(t *testing.T, source string) {
	t.Helper()
	l, e, at := sql.Parse(source)
	switch {
	case e == api.OK:
		if at != 0 {
			t.Fatalf("%q: no error, at %d", source, at)
		}
		for _, s := range l {
			again(t, source, s)
		}
	case e != api.ErrSyntax && e != api.ErrLarge:
		t.Fatalf("%q: %v", source, e)
	case len(l) > 0 || at < 0 || at > len(source):
		t.Fatalf("%q: %v at %d, and %d statements", source, e, at, len(l))
	}
}

// P1
func TestAnyTexts(t *testing.T) {
	r := rand.New(rand.NewSource(1))
	tokens := append(anyToken(), "#", "'", `"`, "/*", "*/", "--", "\n", " ", "\x00", "é", "''", `""`, "99999999999999999999", "1a", "!", "!=", "|")
	for range 30000 {
		var b strings.Builder
		for range r.Intn(12) {
			b.WriteString(tokens[r.Intn(len(tokens))])
			if r.Intn(3) > 0 {
				b.WriteByte(' ')
			}
		}
		held(t, b.String())
	}
	for range 20000 {
		b := make([]byte, r.Intn(12))
		for i := range b {
			b[i] = byte(r.Intn(256))
		}
		held(t, string(b))
		held(t, "select "+string(b))
	}
}

// P1: texts of which each byte is another, or is missing.
func TestSpoiledTexts(t *testing.T) {
	m := maker{rand.New(rand.NewSource(2))}
	for i := range 3000 {
		w := &scribe{r: m.r, dense: i%2 == 0}
		w.statement(m.statement(2))
		source, _ := w.text()
		at := m.r.Intn(len(source))
		held(t, source[:at])
		held(t, source[at:])
		held(t, source[:at]+source[at+1:])
		held(t, source[:at]+string(rune(m.r.Intn(128)))+source[at+1:])
		held(t, source[:at]+pick(m, anyToken()...)+source[at:])
		held(t, source+";"+source)
	}
}

// P1: texts that are as long, as wide and as deep as they may be.
func TestLargeTexts(t *testing.T) {
	fill := func(ahead, many, behind string) string {
		return ahead + run(many, (api.MaxSQL-len(ahead)-len(behind))/len(many)) + behind
	}
	for _, s := range []string{
		fill("select ", "(", ""), fill("select ", "- ", "1"), fill("select ", "not ", "1"), fill("select ", "case ", "1"), fill("select ", "f(", ""), fill("select ", "a(", "1"), fill("", "begin;", ""), fill("select 1", "+1", ""),
		fill("select * from ", "(select * from ", "t"), fill("select ", "(select ", "1"), fill("select ", "exists(select ", "1"), fill("select 1", " in(1", ""), fill("select ", "cast(", "1"), fill("select ", "case when ", "1"),
		fill("select 1", ",1", ""), fill("select a in(1", ",1", ")"), fill("select f(f(1", ",1", "))"), fill("insert into t values(1", ",1", ")"), fill("insert into t values(1)", ",(1)", ""), fill("select 1", " union select 1", ""), fill("select 1 from t", ",t", ""), fill("select 1 order by 1", ",1", ""),
		fill("select case", " when a then b", " end"), fill("update t set a=1", ",a=1", ""), fill("create table t(a text", " unique", ")"), fill("create table t(a text ", "check(a)", ")"), fill("create table t(a text", ",unique(a)", ")"), fill("create table t(a text", ",check(a)", ")"), fill("create table t(check(a)", ",check(a)", ")"),
		fill("create table t(a text", " not null", ")"), fill("create table t(a text", " default 1", ")"), fill("create index i on t(a", ",a", ")"),
		"select " + within("f("+run("1,", 9000)+"1)", 149), "select " + run("f(", 58) + run("1,", 9000) + "1" + run(")", 58),
		fill("/*", "/*", "*/"), fill("", "--", ""), fill("", "-", ""), fill("select '", "''", "'"), fill("select ", "'", ""), fill("select ", `"`, ""), fill("select ", "a", ""), fill("select ", "9", ""), fill("", "\x00", ""),
		"select " + within(run("case when a then ", 59)+"1"+run(" end", 59), 90),
	} {
		held(t, s)
		held(t, s[:len(s)-1])
	}
	// Each column's own key stands behind a rule that could be one.
	var keys, columns strings.Builder
	for i := range 600 {
		name := "c" + run("x", i%7) + strconv.Itoa(i)
		columns.WriteString("," + name + " text unique")
		if i%3 == 0 {
			keys.WriteString(",unique(" + name + ")")
		}
	}
	held(t, "create table t("+keys.String()[1:]+columns.String()+")")
	for _, s := range []string{run("x", 1<<20), run("(", 1<<20), run("'", 1<<20), run(" ", 1<<20)} {
		refused(t, s, api.ErrLarge, 0)
	}
}

// P1: Print answers, whatever a statement lacks, or has too much.
func TestPrintAnswersAnything(t *testing.T) {
	for kind := -1; kind < 20; kind++ {
		for op := -1; op < 40; op++ {
			for _, form := range []int{0, 1, 2, 3, -1, math.MaxInt} {
				for parts := range 5 {
					e := api.Expr{Op: op, Form: form, Args: make([]api.Expr, parts)}
					l := []api.Expr{e, {Op: op, Sub: []api.Select{{}}, Args: []api.Expr{e}}}
					q := []api.Select{{Ops: []int{op}, Order: []api.Order{{Expr: e}}, Limit: int64(op), Cores: []api.Core{{Where: l, From: []api.From{{Join: op}, {Sub: make([]api.Select, parts)}}}}}}
					sql.Print(api.Stmt{Kind: kind})
					sql.Print(api.Stmt{Kind: kind, Where: l, Checks: l, Rows: [][]api.Expr{nil, l}, Sets: []api.Set{{Expr: e}}, Query: q[:parts&1]})
					sql.Print(api.Stmt{Kind: kind, Keys: []api.Key{{}, {Columns: []string{""}}}, Columns: []api.ColumnDef{{Kind: op, Default: make([]api.Value, parts)}}, Query: q})
				}
			}
		}
	}
	if sql.Print(api.Stmt{}) != "" {
		t.Error("a statement of no kind is written")
	}
}

// block of memory, the room of a list included.
type block struct{ from, to uintptr }

// blocks of all lists in a value.
func blocks(v reflect.Value) []block {
	var l []block
	switch v.Kind() {
	case reflect.Slice:
		if v.Cap() > 0 {
			l = append(l, block{v.Pointer(), v.Pointer() + uintptr(v.Cap())*v.Type().Elem().Size()})
		}
		for i := range v.Len() {
			l = append(l, blocks(v.Index(i))...)
		}
	case reflect.Struct:
		for i := range v.NumField() {
			l = append(l, blocks(v.Field(i))...)
		}
	}
	return l
}

// spoil all lists in a value, their room included.
func spoil(v reflect.Value) {
	switch v.Kind() {
	case reflect.Slice:
		for i := range v.Len() {
			spoil(v.Index(i))
		}
		whole := v.Slice(0, v.Cap())
		for i := range whole.Len() {
			spoil(whole.Index(i))
		}
	case reflect.Struct:
		for i := range v.NumField() {
			spoil(v.Field(i))
		}
	case reflect.String:
		v.SetString("spoiled")
	case reflect.Bool:
		v.SetBool(!v.Bool())
	default:
		v.SetInt(v.Int() ^ 77)
	}
}

// P2: what Parse gives is new memory, of which no list has any with another.
func TestParseGivesNewMemory(t *testing.T) {
	m := maker{rand.New(rand.NewSource(3))}
	for range 1000 {
		w := &scribe{r: m.r}
		w.statement(m.statement(3))
		w.put(";")
		w.statement(m.statement(3))
		source, _ := w.text()
		first, second := parsed(t, source), parsed(t, source)
		l := blocks(reflect.ValueOf([][]api.Stmt{first, second}))
		slices.SortFunc(l, func(a, b block) int { return cmp.Compare(a.from, b.from) })
		for i := range l[1:] {
			if l[i].to > l[i+1].from {
				t.Fatalf("%s: two lists share memory", source)
			}
		}
		told := sql.Print(second[0])
		spoil(reflect.ValueOf(first))
		third := parsed(t, source)
		if !same(second, third) || sql.Print(second[0]) != told {
			t.Fatalf("%s: what was given is seen later", source)
		}
	}
}

// roomy: a copy of a statement's lists with room behind them.
func roomy(v reflect.Value) {
	switch v.Kind() {
	case reflect.Slice:
		for i := range v.Len() {
			roomy(v.Index(i))
		}
		l := reflect.MakeSlice(v.Type(), v.Len(), v.Len()+3)
		reflect.Copy(l, v)
		v.Set(l)
	case reflect.Struct:
		for i := range v.NumField() {
			roomy(v.Field(i))
		}
	}
}

// rooms: what stands in the room behind all lists of a value.
func rooms(v reflect.Value) []any {
	var l []any
	switch v.Kind() {
	case reflect.Slice:
		for i := range v.Len() {
			l = append(l, rooms(v.Index(i))...)
		}
		l = append(l, v.Slice(v.Len(), v.Cap()).Interface())
	case reflect.Struct:
		for i := range v.NumField() {
			l = append(l, rooms(v.Field(i))...)
		}
	}
	return l
}

// P2: Print does not change what it is given, nor what stands behind its lists.
func TestPrintChangesNothing(t *testing.T) {
	m := maker{rand.New(rand.NewSource(4))}
	for range 200 {
		w := &scribe{r: m.r}
		w.statement(m.statement(3))
		source, _ := w.text()
		s, was := parsed(t, source)[0], parsed(t, source)[0]
		roomy(reflect.ValueOf(&s).Elem())
		told := sql.Print(s)
		if !same(s, was) {
			t.Fatalf("%s: it was changed", source)
		}
		for _, room := range rooms(reflect.ValueOf(s)) {
			for i := range reflect.ValueOf(room).Len() {
				if !reflect.ValueOf(room).Index(i).IsZero() {
					t.Fatalf("%s: something stands behind a list", source)
				}
			}
		}
		spoil(reflect.ValueOf([]api.Stmt{s}))
		if told != sql.Print(was) {
			t.Fatalf("%s: what was told is another now", source)
		}
	}
}

// P1, P16
func FuzzParse(f *testing.F) {
	m := maker{rand.New(rand.NewSource(5))}
	for range 200 {
		w := &scribe{r: m.r}
		w.statement(m.statement(2))
		source, _ := w.text()
		f.Add(source)
	}
	for _, s := range wrong() {
		f.Add(s)
	}
	f.Fuzz(held)
}
