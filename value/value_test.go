package value_test

import (
	"cmp"
	"testing"

	"relstore/api"
	"relstore/value"
)

// P3
func TestClean(t *testing.T) {
	for _, v := range rising() {
		for _, x := range soiled(v) {
			if got := value.Clean(x); got != v {
				t.Errorf("Clean(%v): %v, not %v", x, got, v)
			}
		}
	}
}

// P3
func TestOrderOfAllValues(t *testing.T) {
	l := rising()
	for i, v := range l {
		for k, w := range l {
			for _, x := range soiled(v) {
				for _, y := range soiled(w) {
					if got := value.Order(x, y); got != cmp.Compare(i, k) {
						t.Fatalf("Order(%v, %v): %d", x, y, got)
					}
				}
			}
		}
	}
}

// P3
func TestRows(t *testing.T) {
	for i, x := range []struct {
		l, m []api.Value
		want int
	}{
		{nil, nil, 0},
		{nil, []api.Value{}, 0},
		{nil, []api.Value{null}, -1},
		{[]api.Value{null}, []api.Value{null}, 0},
		{[]api.Value{{Kind: 9, N: 1}}, []api.Value{{N: 5, S: "x"}}, 0},
		{[]api.Value{n(1), {Kind: api.Bool, N: 3}}, []api.Value{{Kind: api.Int, N: 1, S: "x"}, b(true)}, 0},
		{[]api.Value{n(1), n(2)}, []api.Value{n(1)}, 1},
		{[]api.Value{n(1), n(2)}, []api.Value{n(2)}, -1},
		{[]api.Value{n(1), n(2), n(3)}, []api.Value{n(1), n(3), n(2)}, -1},
		{[]api.Value{s("a"), s("b")}, []api.Value{s("ab")}, -1},
		{[]api.Value{s("b")}, []api.Value{s("a"), s("z"), s("z")}, 1},
	} {
		if got := value.Rows(x.l, x.m); got != x.want {
			t.Errorf("row %d: %d, not %d", i, got, x.want)
		}
		if got := value.Rows(x.m, x.l); got != -x.want {
			t.Errorf("row %d, the other way about: %d, not %d", i, got, -x.want)
		}
	}
}

// P3
func TestRowsOfAnyLists(t *testing.T) {
	l := lists([]api.Value{null, b(true), n(-1), s("")}, 3)
	for _, x := range l {
		for _, y := range l {
			if got, want := value.Rows(x, y), slowRows(x, y); got != want {
				t.Fatalf("Rows(%v, %v): %d, not %d", x, y, got, want)
			}
		}
	}
}

func slowRows(l, m []api.Value) int {
	switch {
	case len(l) == 0 || len(m) == 0:
		return cmp.Compare(len(l), len(m))
	case value.Order(l[0], m[0]) != 0:
		return value.Order(l[0], m[0])
	}
	return slowRows(l[1:], m[1:])
}
