package sql_test

import (
	"strings"
	"testing"

	"relstore/api"
)

// no tokens: each with its error.
func noTokens() map[string]api.Errno {
	return map[string]api.Errno{
		"#": api.ErrSyntax, "'x": api.ErrSyntax, `"x`: api.ErrSyntax, `""`: api.ErrSyntax, "1x": api.ErrSyntax, "9223372036854775808": api.ErrSyntax, "/* x": api.ErrSyntax, "!": api.ErrSyntax, "é": api.ErrSyntax,
		run("x", 1001): api.ErrLarge, "'" + run("x", 1001) + "'": api.ErrLarge, `"` + run("x", 1001) + `"`: api.ErrLarge,
	}
}

// P15: tokens are read one ahead. In each row ^, which is no part of the text, stands where a token that is none is found as soon as it is there; it is not found behind a token that may not stand there.
func TestTokensAreReadOneAhead(t *testing.T) {
	for token, e := range noTokens() {
		for _, s := range []string{
			"^", "select ^", "select a ^", "select a + ^", "select a, ^ from t", "begin ^", "begin; ^", "select (^", "select (a)^ ", "select f(^", "select case when a ^", "insert into t (a) ^", "create table t (a integer ^", "rollback ^", "select 1 limit 1 ^", "select a /* */ ^", "select a --\n^",
		} {
			ahead, behind, _ := strings.Cut(s, "^")
			refused(t, ahead+token+" "+behind, e, len(ahead))
		}
		for _, s := range []string{"select ^from ", "^x ", "begin ^x ", "select a b ^c ", "select 1 limit ^a ", "create ^a ", "select f(^* ", "begin;^; ", "select a.b^.", "select a = b ^= ", "select 1 ^offset "} {
			ahead, behind, _ := strings.Cut(s, "^")
			refused(t, ahead+behind+token, api.ErrSyntax, len(ahead))
		}
	}
}

// P15: what is too high is so when it is whole: the next token is read, but not looked at.
func TestTooHighIsFoundBehindTheNextToken(t *testing.T) {
	long := "a" + run(" + a", 60)
	place := len("a" + run(" + a", 59) + " ")
	for s, at := range map[string]int{
		"select " + long:                                                              len("select ") + place,
		"select f(" + run("- ", 59) + "a)":                                            len("select "),
		"select " + run("not ", 60) + "a":                                             len("select "),
		"select " + run("f(", 60) + "a" + run(")", 60):                                len("select "),
		"select case " + run("- ", 59) + "a when 1 then 2 end":                        len("select "),
		"select cast(" + run("- ", 59) + "a as text)":                                 len("select "),
		"select exists (select " + run("- ", 59) + "a)":                               len("select "),
		"select a in (" + run("- ", 59) + "a)":                                        len("select a "),
		"select " + run("(select ", 60) + "a" + run(")", 60):                          len("select "),
		"select * from (select " + run("- ", 59) + "a)":                               len("select * from "),
		"select * from " + run("(select * from ", 60) + "(select *)" + run(" x)", 60): len("select * from "),
		"select a between 1 and " + run("- ", 59) + "a":                               len("select a "),
		"select a like " + run("- ", 59) + "a":                                        len("select a "),
		"select (" + strings.TrimSuffix(long, " + a") + ") is null":                   len("select (" + strings.TrimSuffix(long, " + a") + ") "),
		"select (" + strings.TrimSuffix(long, " + a + a") + ") is not null":           len("select (" + strings.TrimSuffix(long, " + a + a") + ") "),
	} {
		refused(t, s, api.ErrLarge, at)
		for token, e := range noTokens() {
			refused(t, s+" "+token, e, len(s)+1)
		}
		for _, next := range []string{"key", ")", "end", "'x'", "1", "when", "begin", ";;", "key #", ";#"} {
			refused(t, s+" "+next, api.ErrLarge, at)
		}
	}
	// While more may come it is not whole.
	refused(t, "select a"+run(" + a", 59)+" + ", api.ErrSyntax, len("select a"+run(" + a", 59)+" + "))
	refused(t, "select a"+run(" + a", 59)+" + key", api.ErrSyntax, len("select a"+run(" + a", 59)+" + "))
	refused(t, "select a"+run(" + a", 59)+" + a * key", api.ErrSyntax, len("select a"+run(" + a", 59)+" + a * "))
	refused(t, "select a"+run(" + a", 59)+" + a.", api.ErrSyntax, len("select a"+run(" + a", 59)+" + a."))
	refused(t, "select a"+run(" + a", 59)+" + a(key", api.ErrSyntax, len("select a"+run(" + a", 59)+" + a("))
	refused(t, "select f("+run("- ", 59)+"a key", api.ErrSyntax, len("select f("+run("- ", 59)+"a "))
	refused(t, "select case when "+run("- ", 59)+"a then b key", api.ErrSyntax, len("select case when "+run("- ", 59)+"a then b "))
	refused(t, "select exists (select "+run("- ", 59)+"a from", api.ErrSyntax, len("select exists (select "+run("- ", 59)+"a from"))
	refused(t, "select "+run("- ", 60)+"key", api.ErrSyntax, len("select "+run("- ", 60)))
}

// P15: what stands within too many is found as soon as it is looked at.
func TestTooDeepIsFoundAheadOfTheNextToken(t *testing.T) {
	ahead := "select " + run("(", 150)
	for _, token := range []string{"(", "- ", "not ", "case "} {
		refused(t, ahead+token, api.ErrLarge, len(ahead))
		refused(t, ahead+token+"key", api.ErrLarge, len(ahead))
		refused(t, ahead+token+token, api.ErrLarge, len(ahead))
		for no := range noTokens() {
			refused(t, ahead+token+no, api.ErrLarge, len(ahead))
		}
	}
	for no, e := range noTokens() {
		refused(t, ahead+no, e, len(ahead))
		refused(t, ahead+"f "+no, e, len(ahead)+2)
	}
	refused(t, ahead, api.ErrSyntax, len(ahead))
	refused(t, ahead+")", api.ErrSyntax, len(ahead))
	refused(t, ahead+"*", api.ErrSyntax, len(ahead))
	refused(t, ahead+"a (", api.ErrLarge, len(ahead)+2)
	refused(t, ahead+"a in (", api.ErrLarge, len(ahead)+5)
	refused(t, ahead+"1 (", api.ErrSyntax, len(ahead)+2)
	refused(t, ahead+"a.b (", api.ErrSyntax, len(ahead)+4)
	refused(t, ahead+"a not not", api.ErrSyntax, len(ahead)+6)
	refused(t, ahead+"a case", api.ErrSyntax, len(ahead)+2)
	refused(t, ahead+"a = not b", api.ErrSyntax, len(ahead)+4)
	// A minus ahead of too many is too deep ahead of being too high.
	refused(t, "select "+run("- ", 151)+"a", api.ErrLarge, len("select "+run("- ", 150)))
	refused(t, "select "+run("- ", 150)+"a", api.ErrLarge, len("select "+run("- ", 90)))
}
