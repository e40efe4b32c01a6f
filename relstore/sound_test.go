package relstore_test

import (
	"slices"
	"testing"

	"relstore/api"
	"relstore/bind"
	"relstore/disk"
	"relstore/mvcc"
	"relstore/sql"
	"relstore/value"
)

// laid: what stands on a disk, table of entries by table of entries.
type laid struct {
	t  testing.TB
	tx *mvcc.Tx
}

func (l laid) entries(number int) []api.Entry {
	l.t.Helper()
	entries, e := l.tx.Peek(number, "", "")
	if e != api.OK {
		l.t.Fatal(e)
	}
	return entries
}

func unkeyed(t testing.TB, s string) []api.Value {
	t.Helper()
	l, e := value.Unkey(s)
	if e != api.OK {
		t.Fatalf("%q is no key", s)
	}
	return l
}

func unpacked(t testing.TB, s string) []api.Value {
	t.Helper()
	l, e := value.Unpack(s)
	if e != api.OK {
		t.Fatalf("%q is no row", s)
	}
	return l
}

// expected: of each table of entries that there should be its keys, by the catalog and the rows.
func (l laid) expected() map[int][]string {
	out := map[int][]string{}
	texts, heads := map[string]string{}, map[string]int{}
	orders := map[string]map[int][]int{}
	for _, n := range l.entries(0) {
		k := unkeyed(l.t, n.Key)
		name := k[0].S
		out[0] = append(out[0], n.Key)
		switch {
		case len(k) == 1:
			heads[name] = int(unpacked(l.t, n.Value)[0].N)
			orders[name] = map[int][]int{}
		case k[1] == truth(0):
			texts[name] += n.Value
		default:
			var columns []int
			for _, v := range unpacked(l.t, n.Value)[2:] {
				columns = append(columns, int(v.N))
			}
			orders[name][int(k[2].N)] = columns
		}
	}
	for name, number := range heads {
		s, _, _ := sql.Parse(texts[name])
		x, e := bind.Define(nil, s[0])
		if e != api.OK {
			l.t.Fatal(texts[name], e)
		}
		for i, columns := range x.Keys {
			orders[name][number+1+i] = columns
		}
		for _, n := range l.entries(number) {
			out[number] = append(out[number], n.Key)
			for order, columns := range orders[name] {
				out[order] = append(out[order], key(some(unpacked(l.t, n.Value), columns)...)+n.Key)
			}
		}
	}
	return out
}

// sound: a disk has nothing but what the catalog tells, and the orders of tables are those of their rows.
func sound(t testing.TB, d *disk.Disk) {
	t.Helper()
	s, e := mvcc.Open(twin(t, d), 8)
	if e != api.OK {
		t.Fatal(e)
	}
	l := laid{t, s.Begin()}
	want := l.expected()
	for number := range 1000 {
		var keys []string
		for _, n := range l.entries(number) {
			keys = append(keys, n.Key)
		}
		slices.Sort(want[number])
		if !slices.Equal(keys, want[number]) {
			t.Fatalf("table of entries %d has %q, not %q", number, keys, want[number])
		}
	}
}
