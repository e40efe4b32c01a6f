package sql_test

import (
	"strings"
	"testing"

	"relstore/api"
)

// within so many parentheses.
func within(s string, times int) string { return run("(", times) + s + run(")", times) }

// P15: ( and CASE, and NOT and - ahead of an expression, do not stand within 150 of them. A ^, which is no part of the text, stands ahead of what is the 151st one if it stands within 150 parentheses.
func TestOpen(t *testing.T) {
	for _, s := range []string{
		"^(a)", "^(select a)", "f^(a)", "f^()", "f^(a, b)", "count^(*)", "count^(a)", "count^(distinct a)", "cast^(a as text)", "exists ^(select a)", "a in ^(b)", "a not in ^(b)", "a in ^(select b)", "a not in ^(select b)",
		"^not a", "^not a = b", "^- a", "^- 1", "a - ^- b", "a and ^not b", "a = ^- b", "^case when a then b end", "^case a when b then c end", "a + ^case when a then b end",
		"a + ^(b)", "1 - ^(b)", "a not in ^(1, 2)", "a is not null and ^(b)", "a between 1 and ^(b)", "^(a) + (b)", "^-a + (b)", "^not a or (b)", "^case when a then b end + (c)", "f^(a) + -b",
	} {
		ahead, behind, _ := strings.Cut(s, "^")
		parsed(t, "select "+within(ahead+behind, 149))
		refused(t, "select "+within(ahead+behind, 150), api.ErrLarge, len("select "+run("(", 150)+ahead))
		refused(t, "delete from t where "+within(ahead+behind, 150), api.ErrLarge, len("delete from t where "+run("(", 150)+ahead))
	}
}

// P15: those that are part of something else do not count.
func TestNotOpen(t *testing.T) {
	for _, s := range []string{"a - b", "a - b - 1", "a is not null", "a not like b", "a not between b and c", "a between b and c", "a.b", "'('", `"("`, "a /* ( - not case */"} {
		parsed(t, "select "+within(s, 150))
	}
	parsed(t, "create table t (a integer default - 1 not null check ("+within("a", 148)+"))")
}

// P15: what is open is so till its end.
func TestOpenTillTheEnd(t *testing.T) {
	// Behind its end there is room for another.
	for _, s := range []string{"(a)", "-a", "f(a)", "case when a then b end", "(select a)"} {
		parsed(t, "select "+within(s+run(" + "+s, 50), 149))
	}
	for _, s := range []string{"not a", "not a = b", "a in (b)", "not a is null"} {
		parsed(t, "select "+within(s+run(" and "+s, 50), 149))
	}
	// NOT and - are open till the end of what they are ahead of.
	for s, is := range map[string]bool{
		"not a and (b)": true, "not a = b or (c)": true, "not a = ^(b)": false, "not a + ^(b)": false, "not ^(a)": false, "not ^not a": false, "not ^- a": false, "not a in ^(b)": false, "not a is null and (b)": true,
		"- a * (b)": true, "- a.b + (c)": true, "- ^(a)": false, "- f^(a)": false, "- ^- a": false, "- ^case when a then b end": false,
		"case when ^(a) then b end": false, "case ^-a when b then c end": false, "case when a then ^not b end": false, "case when a then b else f^() end": false, "case when a then b end + (c)": true,
		"f(^(a))": false, "a in (^-b)": false, "count(^(a))": false, "cast(^(a) as text)": false, "(select ^(a))": false, "(select * from ^(select 1) x)": false, "exists (select * where ^- a)": false, "f(a) + (b)": true, "(select * order by ^- a)": false,
	} {
		ahead, behind, _ := strings.Cut(s, "^")
		if is {
			parsed(t, "select "+within(s, 149))
		} else {
			refused(t, "select "+within(ahead+behind, 149), api.ErrLarge, len("select "+run("(", 149)+ahead))
			parsed(t, "select "+within(ahead+behind, 148))
		}
	}
}

// P15: any ( counts, also those of statements.
func TestOpenInStatements(t *testing.T) {
	for s, own := range map[string]int{
		"select @":                                    0,
		"select 1 from t where @":                     0,
		"select 1 from t join u on @":                 0,
		"select * from (select @) x":                  1,
		"insert into t (a, b) select @":               0,
		"insert into t (a, b) values ((1), (2)), (@)": 1,
		"insert into t values (@)":                    1,
		"update t set a = (1), b = @":                 0,
		"update t set a = -1 where @":                 0,
		"create table t (a integer check (@))":        2,
		"create table t (check (@))":                  2,
		"create table t (unique (a), primary key (b), check (a), check (@), unique (a))": 2,
		"begin; select (1); delete from t where @":                                       0,
	} {
		ahead, behind, _ := strings.Cut(s, "@")
		parsed(t, ahead+within("a", 150-own)+behind)
		refused(t, ahead+within("a", 151-own)+behind, api.ErrLarge, len(ahead)+150-own)
		refused(t, ahead+within("a", 999)+behind, api.ErrLarge, len(ahead)+150-own)
	}
}
