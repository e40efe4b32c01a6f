package value_test

import (
	"math"
	"strings"
	"testing"

	"relstore/api"
	"relstore/value"
)

// P6
func TestConcat(t *testing.T) {
	for _, left := range []int{0, 1, 499, 500, 999, 1000, 1001} {
		for _, right := range []int{0, 1, 500, 501, 1000, 1001} {
			x, y := strings.Repeat("x", left), strings.Repeat("y", right)
			want := null
			if left+right <= 1000 {
				want = s(x + y)
			}
			if got := value.Concat(s(x), s(y)); got != want {
				t.Errorf("%d and %d bytes: %v", left, right, got)
			}
		}
	}
	if got := value.Concat(api.Value{Kind: api.Text, N: 4, S: "\x00"}, api.Value{Kind: api.Text, N: 5, S: "\xff"}); got != s("\x00\xff") {
		t.Errorf("texts with something in N: %v", got)
	}
	for _, v := range all() {
		if v.Kind != api.Text && (value.Concat(v, s("a")) != null || value.Concat(s("a"), v) != null || value.Concat(v, v) != null) {
			t.Errorf("Concat with %v", v)
		}
	}
}

// slowLike tries all that each % may stand for.
func slowLike(x, p string) bool {
	switch {
	case p == "":
		return x == ""
	case p[0] == '%':
		return slowLike(x, p[1:]) || x != "" && slowLike(x[1:], p)
	}
	return x != "" && (p[0] == '_' || p[0] == x[0]) && slowLike(x[1:], p[1:])
}

// P6
func TestLikeByTryingAll(t *testing.T) {
	patterns := texts("ab%_", 5)
	for _, x := range texts("ab%", 5) {
		for _, p := range patterns {
			if got := value.Like(s(x), s(p)); got != b(slowLike(x, p)) {
				t.Fatalf("Like(%q, %q): %v", x, p, got)
			}
		}
	}
}

// P6
func TestLike(t *testing.T) {
	for i, x := range []struct {
		text, pattern string
		want          bool
	}{
		{"", "", true},
		{"", "%%", true},
		{"", "_", false},
		{"é", "_", false},
		{"é", "__", true},
		{"\xff\x00", "_\x00", true},
		{"a", "A", false},
		{"a%c", "a%c", true},
		{"a_c", "a_c", true},
		{"abc", `a\%`, false},
		{"a.c", "a.c", true},
		{"abc", "a.c", false},
		{"abc", "[a-z]bc", false},
		{"abcabd", "%ab%d", true},
		{"abcabd", "%ab_", true},
		{"abcabd", "ab_", false},
		{"a\nb", "a%b", true},
	} {
		if got := value.Like(s(x.text), s(x.pattern)); got != b(x.want) {
			t.Errorf("row %d: %v", i, got)
		}
	}
	if value.Like(api.Value{Kind: api.Text, N: 1, S: "ab"}, api.Value{Kind: api.Text, N: 2, S: "a_"}) != b(true) {
		t.Error("texts with something in N")
	}
	for _, v := range all() {
		if v.Kind != api.Text && (value.Like(v, s("%")) != null || value.Like(s(""), v) != null || value.Like(v, v) != null) {
			t.Errorf("Like with %v", v)
		}
	}
}

// P1: a pattern for which trying all would not end.
func TestLikeEnds(t *testing.T) {
	x, p := strings.Repeat("a", 2000), strings.Repeat("%a", 900)+"%b"
	if value.Like(s(x), s(p)) != b(false) || value.Like(s(x+"b"), s(p)) != b(true) {
		t.Error("many of %")
	}
}

// P6
func TestShow(t *testing.T) {
	for v, want := range map[api.Value]string{
		null:                                 "null",
		{Kind: 4, N: 1, S: "x"}:              "null",
		{Kind: -1}:                           "null",
		b(false):                             "false",
		{Kind: api.Bool, S: "x"}:             "false",
		b(true):                              "true",
		{Kind: api.Bool, N: -2}:              "true",
		n(0):                                 "0",
		{Kind: api.Int, N: -12, S: "x"}:      "-12",
		n(least):                             "-9223372036854775808",
		n(most):                              "9223372036854775807",
		s(""):                                "",
		{Kind: api.Text, N: 1, S: "a'b\x00"}: "a'b\x00",
		s(strings.Repeat("x", 2000)):         strings.Repeat("x", 2000),
	} {
		if got := value.Show(v); got != want {
			t.Errorf("Show(%v): %q, not %q", v, got, want)
		}
	}
}

// P6
func TestCastToItsOwnKindOrText(t *testing.T) {
	for _, v := range rising() {
		for _, x := range soiled(v) {
			if v.Kind != api.Null {
				if got := value.Cast(x, v.Kind); got != v {
					t.Errorf("Cast(%v, %d): %v", x, v.Kind, got)
				}
				if got := value.Cast(x, api.Text); got != s(value.Show(v)) {
					t.Errorf("Cast(%v, text): %v", x, got)
				}
			}
			for _, kind := range []int{math.MinInt, -1, 0, 4, x.Kind + 256, math.MaxInt} {
				if got := value.Cast(x, kind); got != null {
					t.Errorf("Cast(%v, %d): %v", x, kind, got)
				}
			}
		}
	}
	for _, x := range soiled(null) {
		for kind := -1; kind < 10; kind++ {
			if got := value.Cast(x, kind); got != null {
				t.Errorf("Cast(%v, %d): %v", x, kind, got)
			}
		}
		if got := value.Cast(x, x.Kind); got != null {
			t.Errorf("Cast(%v, %d): %v", x, x.Kind, got)
		}
	}
}

// P6
func TestCastOfTruthsAndNumbers(t *testing.T) {
	for i, x := range []struct {
		v    api.Value
		kind int
		want api.Value
	}{
		{b(false), api.Int, n(0)},
		{b(true), api.Int, n(1)},
		{api.Value{Kind: api.Bool, N: -9, S: "x"}, api.Int, n(1)},
		{n(0), api.Bool, b(false)},
		{n(1), api.Bool, b(true)},
		{n(least), api.Bool, b(true)},
		{api.Value{Kind: api.Int, N: 256, S: "false"}, api.Bool, b(true)},
	} {
		if got := value.Cast(x.v, x.kind); got != x.want {
			t.Errorf("row %d: %v, not %v", i, got, x.want)
		}
	}
}

// P6
func TestCastOfTextsToTruths(t *testing.T) {
	if value.Cast(s("true"), api.Bool) != b(true) || value.Cast(api.Value{Kind: api.Text, N: 1, S: "false"}, api.Bool) != b(false) {
		t.Error("true and false")
	}
	for _, x := range []string{"", "t", "f", "True", "TRUE", "FALSE", " true", "true ", "true\x00", "truefalse", "0", "1", "null", "yes"} {
		if got := value.Cast(s(x), api.Bool); got != null {
			t.Errorf("%q: %v", x, got)
		}
	}
}

// P6
func TestCastOfTextsToNumbers(t *testing.T) {
	for x, want := range map[string]int64{
		"0": 0, "-0": 0, "000": 0, "7": 7, "-007": -7, "010": 10,
		"9223372036854775807":                  most,
		"-9223372036854775808":                 least,
		strings.Repeat("0", 2000) + "12":       12,
		"-" + strings.Repeat("0", 2000) + "12": -12,
		"00" + "9223372036854775807":           most,
		"-00" + "9223372036854775808":          least,
	} {
		if got := value.Cast(api.Value{Kind: api.Text, N: 99, S: x}, api.Int); got != n(want) {
			t.Errorf("%.30q: %v, not %d", x, got, want)
		}
	}
	for _, x := range []string{
		"", "-", "+", "+1", "-+1", "--1", "+-1", " 1", "1 ", "1\n", "1\x00", "- 1", "1-", "1.0", "1e3", "0x10", "0b1", "1_000", "_1", "1_", "a", "true", "null", "٣", "１",
		"9223372036854775808", "-9223372036854775809", "18446744073709551616", strings.Repeat("9", 2000), "-" + strings.Repeat("9", 2000),
	} {
		if got := value.Cast(s(x), api.Int); got != null {
			t.Errorf("%.30q: %v", x, got)
		}
	}
}
