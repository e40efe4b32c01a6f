package sql_test

import (
	"strings"
	"testing"

	"relstore/api"
)

// P15: blanks and comments may stand between tokens.
func TestBlanks(t *testing.T) {
	want := only(of(api.Add, col("a"), num(1)))
	for _, s := range []string{
		"select a + 1", "select a+1", "select\ta\n+\r1", "\n select a +1 \r\n", "select--\na--+ 1\n+1--", "select a + 1 -- and ' \" /*",
		"/* */select/**/a/*\n'*/+/*/*/1/***/", "select/*--*/a+1", "select a+1--/*\n", "--\n--\nselect a + 1;", "select a+1\t;/* x */--",
	} {
		read(t, s, want)
	}
	for _, s := range []string{"", " ", "\t\r\n", "--", "-- a", "/**/", "/*/*/", "--\n", "/* ; */ -- ;\n "} {
		read(t, s)
	}
	read(t, "select 1--\r2", only(num(1)))
	for _, s := range []string{"\v", "\f", "\x00", "\u00a0", "\x85", "\ufeff"} {
		refused(t, "select 1 "+s, api.ErrSyntax, 9)
		refused(t, s, api.ErrSyntax, 0)
	}
}

// P15
func TestComments(t *testing.T) {
	for _, s := range []string{"/*", "/*/", "/* *", "/* a ' -- \n", "/* **", "/*/ /"} {
		refused(t, s, api.ErrSyntax, 0)
		refused(t, "select a "+s, api.ErrSyntax, 9)
		refused(t, "select a;"+s, api.ErrSyntax, 9)
		refused(t, "/**/"+s, api.ErrSyntax, 4)
	}
	refused(t, "select 1 */", api.ErrSyntax, 10)
	refused(t, "select /* */ */", api.ErrSyntax, 14)
	read(t, "select 1 - -1", only(of(api.Sub, num(1), of(api.Neg, num(1)))))
	read(t, "select 1 --1", only(num(1)))
}

// P15: each keyword, and no other word.
func TestKeywords(t *testing.T) {
	for _, k := range strings.Fields(keywords) {
		for _, word := range []string{k, strings.ToUpper(k), strings.ToUpper(k[:1]) + k[1:]} {
			refused(t, "savepoint "+word, api.ErrSyntax, 10)
			read(t, `savepoint "`+word+`"`, api.Stmt{Kind: api.Savepoint, Name: word})
		}
		for _, word := range []string{k + "_", "_" + k, k + "1", k + "s", k[:len(k)-1] + "q"} {
			read(t, "savepoint "+word, api.Stmt{Kind: api.Savepoint, Name: word})
		}
	}
	for _, word := range []string{"count", "sum", "min", "max", "avg", "abs", "a", "z", "_", "__", "a1", "x_y", "using", "date", "if", "no", "add", "column", "full", "right", "natural", "transaction", "work", "nulls", "any", "some"} {
		read(t, "savepoint "+word, api.Stmt{Kind: api.Savepoint, Name: word})
		read(t, "SAVEPOINT "+strings.ToUpper(word), api.Stmt{Kind: api.Savepoint, Name: word})
	}
}

// P15: names in quotes are as they are written.
func TestNames(t *testing.T) {
	for s, name := range map[string]string{
		`a`: "a", `A`: "a", `_Zz_09`: "_zz_09", `"a"`: "a", `"A"`: "A", `"select"`: "select", `""""`: `"`, `""""""`: `""`, `"a""b"`: `a"b`, `"""a"`: `"a`, `"a"""`: `a"`,
		`" "`: " ", "\"\n\"": "\n", `"'"`: "'", `"--"`: "--", `"/*"`: "/*", "\"\x00\xff\"": "\x00\xff", `"ü"`: "ü", `"1"`: "1", `"a.b"`: "a.b",
	} {
		read(t, "savepoint "+s, api.Stmt{Kind: api.Savepoint, Name: name})
		read(t, "savepoint"+" "+s+";", api.Stmt{Kind: api.Savepoint, Name: name})
	}
	read(t, `savepoint"a"`, api.Stmt{Kind: api.Savepoint, Name: "a"})
	read(t, `select"a""b""c"from"t"`, ask(query(api.Core{Items: []api.Item{{Expr: col(`a"b"c`)}}, From: []api.From{{Join: api.Cross, Table: "t"}}})))
	read(t, `select"a" "b"`, ask(query(api.Core{Items: []api.Item{{Expr: col("a"), As: "b"}}})))
	read(t, `select a"b"`, ask(query(api.Core{Items: []api.Item{{Expr: col("a"), As: "b"}}})))
	read(t, `select "a"b`, ask(query(api.Core{Items: []api.Item{{Expr: col("a"), As: "b"}}})))
	read(t, `select 1"b"`, ask(query(api.Core{Items: []api.Item{{Expr: num(1), As: "b"}}})))
	read(t, `select 'x'b`, ask(query(api.Core{Items: []api.Item{{Expr: lit(text("x")), As: "b"}}})))
	for _, s := range []string{`""`, `"`, `"a`, `"""`, `"a""`, `"""""`, "\"\n'", `"" a"`} {
		refused(t, "savepoint "+s, api.ErrSyntax, 10)
	}
}

// P15
func TestNumbers(t *testing.T) {
	for s, n := range map[string]int64{"0": 0, "7": 7, "007": 7, "9223372036854775807": 9223372036854775807, "0009223372036854775807": 9223372036854775807, run("0", 3000) + "1": 1, "1234567890": 1234567890} {
		read(t, "select "+s, only(num(n)))
		read(t, "select-"+s, only(of(api.Neg, num(n))))
		read(t, "select 1 limit "+s, ask(api.Select{Cores: []api.Core{items(num(1))}, Limit: n}))
	}
	for _, s := range []string{"9223372036854775808", "18446744073709551615", "18446744073709551616", "99999999999999999999999999", run("9", 3000), "12a", "1_", "1_000", "0x1", "1e5", "9223372036854775808a", "1A"} {
		refused(t, "select "+s, api.ErrSyntax, 7)
		refused(t, "select - "+s, api.ErrSyntax, 9)
	}
	refused(t, "select 1.5", api.ErrSyntax, 8)
	refused(t, "select .5", api.ErrSyntax, 7)
	refused(t, "select 1 2", api.ErrSyntax, 9)
}

// P15
func TestTexts(t *testing.T) {
	for s, want := range map[string]string{
		"''": "", "'a'": "a", "''''": "'", "''''''": "''", "'it''s'": "it's", "'''a'''": "'a'", "'A b'": "A b", "'\"'": `"`, "'--'": "--", "'/*'": "/*", "'\n\x00\xff'": "\n\x00\xff", `'\'`: `\`,
	} {
		read(t, "select "+s, only(lit(text(want))))
		read(t, "select"+s, only(lit(text(want))))
	}
	for _, s := range []string{"'", "'abc", "'''", "'a''", "'''''", "'\n--\n/* */ \""} {
		refused(t, "select "+s, api.ErrSyntax, 7)
	}
	refused(t, "select 'a' 'b'", api.ErrSyntax, 11)
}

// P15: the longest sign is taken.
func TestSigns(t *testing.T) {
	for s, op := range map[string]int{"<>": api.Ne, "!=": api.Ne, "<=": api.Le, ">=": api.Ge, "||": api.Concat, "+": api.Add, "-": api.Sub, "*": api.Mul, "/": api.Div, "%": api.Mod, "=": api.Eq, "<": api.Lt, ">": api.Gt} {
		read(t, "select a"+s+"b", only(of(op, col("a"), col("b"))))
		read(t, "select a "+s+" b", only(of(op, col("a"), col("b"))))
	}
	for s, at := range map[string]int{
		"a < > b": 11, "a < = b": 11, "a ! = b": 9, "a | | b": 9, "a <=> b": 11, "a == b": 10, "a =< b": 10, "a => b": 10, "a <<b": 10, "a|||b": 10, "a||||b": 10, "a !b": 9, "a !! b": 9,
		"a ** b": 10, "a//b": 9, "a &b": 9, "a ^ b": 9, "~a": 7, "@a": 7, "#": 7, "$1": 7, "?": 7, "a:b": 8, "a::b": 8, "[a]": 7, "{a}": 7, "`a`": 7, "\\": 7, "ä": 7, "aä": 8, "\xff": 7, "a|b": 8, "|": 7, "!": 7,
	} {
		refused(t, "select "+s, api.ErrSyntax, at)
	}
}

// P15: a name or a text of more than 1000 bytes.
func TestLongTokens(t *testing.T) {
	for _, c := range []string{"x", "X", "_"} {
		read(t, "select "+run(c, 1000), only(col(strings.ToLower(run(c, 1000)))))
		refused(t, "select "+run(c, 1001), api.ErrLarge, 7)
		refused(t, "select "+run(c, 19993), api.ErrLarge, 7)
	}
	for _, c := range []string{"x", " ", "é", "\x00"} {
		n := 1000 / len(c)
		read(t, `select "`+run(c, n)+`"`, only(col(run(c, n))))
		read(t, `select '`+run(c, n)+`'`, only(lit(text(run(c, n)))))
		refused(t, `select "`+run(c, n)+`y"`, api.ErrLarge, 7)
		refused(t, `select '`+run(c, n)+`y'`, api.ErrLarge, 7)
	}
	// Two quotes stand for one byte.
	read(t, `select "`+run(`""`, 1000)+`"`, only(col(run(`"`, 1000))))
	read(t, `select '`+run(`''`, 1000)+`'`, only(lit(text(run(`'`, 1000)))))
	refused(t, `select "`+run(`""`, 1001)+`"`, api.ErrLarge, 7)
	refused(t, `select '`+run(`''`, 1001)+`'`, api.ErrLarge, 7)
	// Without an end it is no name or text at all.
	refused(t, `select "`+run("x", 1001), api.ErrSyntax, 7)
	refused(t, `select '`+run("x", 1001), api.ErrSyntax, 7)
	// Numbers and comments may be as long as they like.
	read(t, "select /*"+run("x", 5000)+"*/ "+run("0", 5000)+" --"+run("x", 5000), only(num(0)))
}

// P15: a text of more than 20000 bytes.
func TestLongTexts(t *testing.T) {
	read(t, "select 1"+run(" ", 19992), only(num(1)))
	refused(t, "select 1"+run(" ", 19993), api.ErrLarge, 0)
	refused(t, run(" ", 20001), api.ErrLarge, 0)
	refused(t, run("#", 20001), api.ErrLarge, 0)
	refused(t, run("#", 20000), api.ErrSyntax, 0)
	refused(t, run("(", 1<<20), api.ErrLarge, 0)
}
