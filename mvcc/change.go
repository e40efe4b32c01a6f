package mvcc

import (
	"slices"
	"strings"

	"relstore/api"
)

// change of an entry.
type change struct {
	key string
	image
}

// changed: a list of entries, in order, with changes of some keys, in order too.
func changed(l []api.Entry, changes []change) []api.Entry {
	if len(changes) == 0 {
		return l
	}
	out := make([]api.Entry, 0, len(l)+len(changes))
	for _, c := range changes {
		n, is := findKey(l, c.key)
		out = append(out, l[:n]...)
		if c.there {
			out = append(out, api.Entry{Key: c.key, Value: c.value})
		}
		if is {
			n++
		}
		l = l[n:]
	}
	return append(out, l...)
}

// findKey in a list of entries: where it stands, and whether it does.
func findKey(l []api.Entry, key string) (int, bool) {
	return slices.BinarySearchFunc(l, key, func(n api.Entry, key string) int {
		return strings.Compare(n.Key, key)
	})
}
