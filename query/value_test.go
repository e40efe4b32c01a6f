package query_test

import "testing"

// expectValues of expressions, each the only item of a query.
func expectValues(t *testing.T, l []told) {
	t.Helper()
	for _, x := range l {
		expect(t, nil, "select "+x.text, x.want)
	}
}

// P18: a value of an expression: what 01 reckons.
func TestReckoned(t *testing.T) {
	expectValues(t, []told{
		{"7", "7"}, {"'it''s'", "'it's'"}, {"true", "true"}, {"null", "null"},
		{"-(3)", "-3"}, {"- -3", "3"}, {"-null", "null"}, {"-(-9223372036854775807 - 1)", "null"}, {"not true", "false"}, {"not null", "null"},
		{"1 + 2 * 3", "7"}, {"7 - 9", "-2"}, {"7 / 2", "3"}, {"-7 / 2", "-3"}, {"-7 % 2", "-1"}, {"7 % -2", "1"}, {"1 / 0", "null"}, {"1 % 0", "null"}, {"1 + null", "null"}, {"9223372036854775807 + 1", "null"}, {"4611686018427387904 * 2", "null"},
		{"'a' || 'b'", "'ab'"}, {"'a' || null", "null"}, {"'" + run("a", 600) + "' || '" + run("b", 401) + "'", "null"}, {"length('" + run("a", 600) + "' || '" + run("b", 400) + "')", "1000"},
		{"1 = 1", "true"}, {"1 <> 1", "false"}, {"1 < 2", "true"}, {"'b' <= 'a'", "false"}, {"true > false", "true"}, {"null >= 1", "null"}, {"null = null", "null"}, {"'' = ''", "true"},
		{"true and true", "true"}, {"true and false", "false"}, {"false and null", "false"}, {"null and false", "false"}, {"true and null", "null"}, {"null and true", "null"}, {"null and null", "null"},
		{"false or false", "false"}, {"false or true", "true"}, {"true or null", "true"}, {"null or true", "true"}, {"null or false", "null"}, {"false or null", "null"}, {"null or null", "null"},
		{"'abc' like 'a%'", "true"}, {"'abc' like '_b'", "false"}, {"'abc' not like '%'", "false"}, {"null like '%'", "null"},
		{"1 is null", "false"}, {"null is null", "true"}, {"null is not null", "false"}, {"(1 = null) is null", "true"},
		{"2 between 1 and 3", "true"}, {"1 between 1 and 1", "true"}, {"0 between 1 and 3", "false"}, {"2 between 3 and 1", "false"}, {"2 not between 3 and 1", "true"}, {"null between 1 and 3", "null"}, {"2 between null and 3", "null"}, {"4 between null and 3", "false"}, {"0 between 1 and null", "false"},
		{"cast('12' as integer)", "12"}, {"cast('x' as integer)", "null"}, {"cast(12 as text)", "'12'"}, {"cast(0 as boolean)", "false"}, {"cast(true as integer)", "1"}, {"cast(null as text)", "null"}, {"cast('true' as boolean)", "true"},
	})
}

// P18: IN, EXISTS, and a query as a value.
func TestQueriesAsValues(t *testing.T) {
	expectValues(t, []told{
		{"1 in (1)", "true"}, {"1 in (2)", "false"}, {"1 in (null)", "null"}, {"null in (1)", "null"}, {"null in (null)", "null"}, {"1 in (2, null, 1)", "true"}, {"1 in (1, null)", "true"}, {"1 in (2, null)", "null"}, {"1 not in (2, null)", "null"}, {"1 not in (2, 3)", "true"},
		{"1 in (select 1)", "true"}, {"1 in (select 2)", "false"}, {"1 in (select null)", "null"}, {"1 in (select 2 union all select null)", "null"}, {"1 in (select 1 union all select null)", "true"}, {"1 in (select 1 where false)", "false"}, {"null in (select 1 where false)", "false"}, {"null in (select 1)", "null"}, {"null not in (select 1 where false)", "true"}, {"1 in (select 1 union all select 2 order by 1 desc limit 1)", "false"}, {"2 in (select 1 union all select 2 order by 1 desc limit 1)", "true"}, {"1 in (select 1 union all select 2 limit 1)", "true"}, {"1 in (select 1 limit 0)", "false"}, {"2 in (select 1 union all select 2 limit 5 offset 1)", "true"}, {"1 in (select 1 union all select 2 limit 5 offset 1)", "false"}, {"null in (select null)", "null"}, {"'x' in (select 'x')", "true"}, {"true in (select false)", "false"},
		{"exists (select 1)", "true"}, {"exists (select 1 where false)", "false"}, {"exists (select null)", "true"}, {"exists (select 1 limit 0)", "false"}, {"exists (select 1 limit 1 offset 1)", "false"}, {"exists (select 1 union all select 1 limit 1 offset 1)", "true"}, {"exists (select 1 union select 1 limit 1 offset 1)", "false"}, {"exists (select distinct 1 from (select 1 union all select 1) x limit 1 offset 1)", "false"}, {"not exists (select 1)", "false"}, {"exists (select count(*) where false)", "true"}, {"exists (select 1 intersect select 2)", "false"},
		{"(select 1)", "1"}, {"(select 1 where false)", "null"}, {"(select 2 union all select 1)", "1"}, {"(select 2 union all select 1 order by 1 desc)", "2"}, {"(select 2 union all select 1 limit 1 offset 1)", "2"}, {"(select 1 limit 0)", "null"}, {"(select 1 limit 1 offset 1)", "null"}, {"(select 1 union all select null)", "null"}, {"(select 2) + (select 3)", "5"}, {"(select (select (select 4)))", "4"}, {"(select max(x) from (select 3 as x union all select 5) y)", "5"},
	})
}

// P18: CASE.
func TestCase(t *testing.T) {
	expectValues(t, []told{
		{"case when true then 1 end", "1"}, {"case when false then 1 end", "null"}, {"case when null then 1 end", "null"}, {"case when null then 1 else 2 end", "2"}, {"case when false then 1 when true then 2 when true then 3 else 4 end", "2"}, {"case when false then 1 when false then 2 else 3 end", "3"}, {"case when true then null else 3 end", "null"},
		{"case 1 when 1 then 'a' end", "'a'"}, {"case 1 when 2 then 'a' end", "null"}, {"case 1 when null then 'a' when 1 then 'b' end", "'b'"}, {"case null when null then 'a' else 'b' end", "'b'"}, {"case null when null then 'a' end", "null"}, {"case 'x' when 'y' then 1 when 'x' then 2 else 3 end", "2"}, {"case false when false then 1 else 2 end", "1"}, {"case false when true then 1 else 2 end", "2"},
	})
}

// P18: functions.
func TestFunctions(t *testing.T) {
	expectValues(t, []told{
		{"length('')", "0"}, {"length('abc')", "3"}, {"length('\xc3\xa4')", "2"}, {"length(null)", "null"},
		{"upper('aZ_9\xc3\xa4`{@[')", "'AZ_9\xc3\xa4`{@['"}, {"lower('aZ_9\xc3\x84`{@[')", "'az_9\xc3\x84`{@['"}, {"upper('abcxyz')", "'ABCXYZ'"}, {"lower('ABCXYZ')", "'abcxyz'"}, {"upper(null)", "null"}, {"lower(null)", "null"},
		{"abs(5)", "5"}, {"abs(-5)", "5"}, {"abs(0)", "0"}, {"abs(null)", "null"}, {"abs(-9223372036854775807)", "9223372036854775807"}, {"abs(-9223372036854775807 - 1)", "null"},
		{"coalesce(1)", "1"}, {"coalesce(null)", "null"}, {"coalesce(null, 2, 3)", "2"}, {"coalesce(null, null)", "null"}, {"coalesce(1, null)", "1"},
		{"nullif(1, 1)", "null"}, {"nullif(1, 2)", "1"}, {"nullif(1, null)", "1"}, {"nullif(null, 1)", "null"}, {"nullif(null, null)", "null"}, {"nullif('a', 'a')", "null"},
		{"substr('hello', 1)", "'hello'"}, {"substr('hello', 2)", "'ello'"}, {"substr('hello', 5)", "'o'"}, {"substr('hello', 6)", "''"}, {"substr('hello', 0)", "'hello'"}, {"substr('hello', -3)", "'hello'"}, {"substr('hello', 9223372036854775807)", "''"}, {"substr('hello', -9223372036854775807 - 1)", "'hello'"},
		{"substr('hello', 2, 3)", "'ell'"}, {"substr('hello', 1, 5)", "'hello'"}, {"substr('hello', 1, 9)", "'hello'"}, {"substr('hello', 4, 9)", "'lo'"}, {"substr('hello', 2, 0)", "''"}, {"substr('hello', 0, 1)", "''"}, {"substr('hello', 0, 2)", "'h'"}, {"substr('hello', -2, 3)", "''"}, {"substr('hello', -2, 4)", "'h'"}, {"substr('hello', -2, 2)", "''"}, {"substr('hello', 1, -1)", "null"}, {"substr('hello', 9, -1)", "null"}, {"substr('', -1, -1)", "null"}, {"substr('', 1, 1)", "''"},
		{"substr('hello', 2, 9223372036854775807)", "'ello'"}, {"substr('hello', 9223372036854775807, 9223372036854775807)", "''"}, {"substr('hello', -9223372036854775807 - 1, 9223372036854775807)", "''"}, {"substr('hello', -9223372036854775807, 9223372036854775807)", "''"}, {"substr('hello', -9223372036854775805, 9223372036854775807)", "'h'"}, {"substr('hello', 5, 9223372036854775803)", "'o'"},
		{"substr(null, 1)", "null"}, {"substr('hello', null)", "null"}, {"substr('hello', 1, null)", "null"},
	})
}
