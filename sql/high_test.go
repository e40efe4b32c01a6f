package sql_test

import (
	"slices"
	"strings"
	"testing"

	"relstore/api"
)

// nested: a text around a core, so many times; @ stands for what is within. A ^, which is no part of the text, stands where it is an error that this is too high: these places, from the outermost one on.
func nested(around, core string, times int) (string, []int) {
	s := core
	for range times {
		s = strings.Replace(around, "@", s, 1)
	}
	var places []int
	for i, c := range []byte(s) {
		if c == '^' {
			places = append(places, i-len(places))
		}
	}
	if strings.Index(around, "^") > strings.Index(around, "@") {
		slices.Reverse(places)
	}
	return strings.ReplaceAll(s, "^", ""), places
}

// higher: ways to have an expression that is one higher than what is within.
func higher() []string {
	return []string{
		"(@) ^+ 1", "1 ^- (@)", "(@) ^|| 1", "1 ^/ (@)", "(@) ^= 1", "1 ^<> (@)", "(@) ^and 1", "1 ^or (@)",
		"^not (@)", "^not @", "^- (@)", "^- @", "(@) ^is null", "(@) ^like 1", "1 ^like (@)", "(@) ^between 1 and 2", "1 ^between (@) and 2", "1 ^between 2 and (@)",
		"(@) ^in (1)", "1 ^in (@)", "1 ^in (2, @, 3)", "(@) ^in (select 1)", "1 ^in (select @)",
		"^f(@)", "^f(1, @)", "^count(@)", "^max(distinct @)", "^cast(@ as text)",
		"^case @ when 1 then 2 end", "^case when @ then 1 end", "^case when 1 then @ end", "^case when 1 then 2 when 3 then @ end", "^case when 1 then 2 else @ end",
		"^exists (select @)", "^(select @)", "(^(select @))", "^(select 1, @ as x, *)", "^(select * from t join u on @)", "^(select * from t left join u on @, v)", "^(select * where @)", "^(select * group by 1, @)", "^(select * having @)",
		"^(select * union select @)", "^(select @ except select *)", "^(select * order by 1, @ desc)", "^(select distinct @ limit 1)",
	}
}

// P15: an expression is not higher than 60. What stands within is whole ahead of what it stands in.
func TestHigh(t *testing.T) {
	for _, around := range higher() {
		for _, where := range []string{"select @", "delete from t where @", "update t set a = @", "select * from t join u on @", "select 1 order by @", "create table t (a text check (@))", "insert into t values (1, @)"} {
			ahead, behind, _ := strings.Cut(where, "@")
			s, _ := nested(around, "a", 59)
			parsed(t, ahead+s+behind)
			s, places := nested(around, "a", 60)
			refused(t, ahead+s+behind, api.ErrLarge, len(ahead)+places[0])
			s, places = nested(around, "a", 70)
			refused(t, ahead+s+behind, api.ErrLarge, len(ahead)+places[10])
		}
	}
}

// P15: a test with NOT in it is two higher.
func TestHighWithNot(t *testing.T) {
	for _, around := range []string{"(@) ^is not null", "(@) ^not in (1)", "1 ^not in (2, @)", "1 ^not in (select @)", "(@) ^not like 1", "1 ^not between 2 and (@)"} {
		for _, core := range []string{"a", "-a"} {
			s, _ := nested(around, core, 29)
			parsed(t, "select "+s)
			s, places := nested(around, core, 30)
			refused(t, "select "+s, api.ErrLarge, len("select ")+places[0])
			s, places = nested(around, core, 35)
			refused(t, "select "+s, api.ErrLarge, len("select ")+places[5])
		}
	}
}

// P15: operators of one line are taken from the left, so each is higher than the one ahead of it.
func TestHighFromTheLeft(t *testing.T) {
	for _, op := range []string{" or a", " and a", " || a", " + a", " - a", " * a", " / a", " % a"} {
		parsed(t, "select a"+run(op, 59))
		parsed(t, "select a"+run(op, 59)+", a"+run(op, 59))
		refused(t, "select a"+run(op, 60), api.ErrLarge, len("select a"+run(op, 59)+" "))
		refused(t, "select a"+run(op, 300), api.ErrLarge, len("select a"+run(op, 59)+" "))
	}
	// What binds more is whole first.
	parsed(t, "select a"+run(" * a", 58)+" + a"+run(" * a", 58))
	parsed(t, "select a"+run(" + a", 58)+" = a"+run(" + a", 58))
	refused(t, "select a"+run(" + a", 59)+" = a", api.ErrLarge, len("select a"+run(" + a", 59)+" "))
	refused(t, "select a = a"+run(" + a", 59), api.ErrLarge, len("select a "))
	refused(t, "select a = a"+run(" + a", 60), api.ErrLarge, len("select a = a"+run(" + a", 59)+" "))
	refused(t, "select a + a"+run(" * a", 59), api.ErrLarge, len("select a "))
	refused(t, "select - a"+run(" * a", 59), api.ErrLarge, len("select - a"+run(" * a", 58)+" "))
}

// P15: a query is one higher than one that it has for a source, which is not 60 high or more.
func TestHighSources(t *testing.T) {
	for core, high := range map[string]int{"select * from t": 0, "select 1": 1, "select - 1": 2, "select * where f(a)": 2, "select * order by a": 1} {
		for _, around := range []string{"select * from ^(@) x", "select 1 from t, ^(@) as x", "select * from t left join ^(@) x on a"} {
			if high == 0 && around != "select * from ^(@) x" {
				continue
			}
			// The outermost query here is 60 high, as what it has for a source is 59 high.
			s, _ := nested(around, core, 60-high)
			parsed(t, s)
			s, places := nested(around, core, 61-high)
			refused(t, s, api.ErrLarge, places[0])
			s, places = nested(around, core, 70-high)
			refused(t, s, api.ErrLarge, places[9])
			// An expression is one higher than its query, with all sources in it.
			s, _ = nested(around, core, 59-high)
			parsed(t, "select exists ("+s+")")
			s, _ = nested(around, core, 60-high)
			refused(t, "select 1 + exists ("+s+")", api.ErrLarge, len("select 1 + "))
		}
	}
	// A star is no expression.
	s, _ := nested("f(@)", "exists (select * from t)", 59)
	parsed(t, "select "+s)
	s, _ = nested("f(@)", "exists (select 1 from t)", 59)
	refused(t, "select "+s, api.ErrLarge, len("select "))
}
