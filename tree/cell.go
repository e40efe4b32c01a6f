package tree

import "relstore/api"

// What stands behind the key of an entry.
const (
	isInline = 0 // the value
	isLong   = 1 // how many bytes it has, and its first page
)

// keySize: the key of a cell, and the byte ahead of it.
func keySize(cell string) int { return 1 + int(cell[0]) }

// keyOf a cell.
func keyOf(cell string) string { return cell[1:keySize(cell)] }

// restOf a cell: what is behind its key.
func restOf(cell string) string { return cell[keySize(cell):] }

// keyed: a key, as a cell begins with it.
func keyed(key string) string { return string([]byte{byte(len(key))}) + key }

// isKeyed: does a cell begin with a key?
func isKeyed(cell string) bool {
	return len(cell) > 0 && cell[0] > 0 && cell[0] <= api.MaxKey && len(cell) >= keySize(cell)
}

// fitsInline: does a value stand in its cell?
func fitsInline(key string, size int) bool { return 2+len(key)+size <= api.MaxInline }

// inlineCell: an entry with its value.
func inlineCell(key, value string) string {
	return keyed(key) + string([]byte{isInline}) + value
}

// longCell: an entry whose value stands elsewhere.
func longCell(key string, size, number int) string {
	return keyed(key) + string([]byte{isLong, byte(size >> 8), byte(size)}) + four(number)
}

// isEntry: is it a cell of a leaf?
func isEntry(cell string) bool {
	if !isKeyed(cell) || restOf(cell) == "" {
		return false
	}
	key, rest := keyOf(cell), restOf(cell)
	switch rest[0] {
	case isInline:
		return fitsInline(key, len(rest)-1)
	case isLong:
		return len(rest) == 7 && longSize(cell) <= api.MaxValue && !fitsInline(key, longSize(cell))
	}
	return false
}

// isInPages: does the value of an entry stand in pages of its own?
func isInPages(cell string) bool { return restOf(cell)[0] == isLong }

// longSize: how many bytes a value has that stands elsewhere.
func longSize(cell string) int {
	rest := restOf(cell)
	return int(rest[1])<<8 | int(rest[2])
}

// childCell: a child of an inner node, but the first one.
func childCell(key string, number int) string { return keyed(key) + four(number) }

// isChild: is it a cell of an inner node?
func isChild(cell string) bool { return isKeyed(cell) && len(restOf(cell)) == 4 }

// pageOf a cell: the last four bytes.
func pageOf(cell string) int {
	n := 0
	for i := len(cell) - 4; i < len(cell); i++ {
		n = n<<8 | int(cell[i])
	}
	return n
}

// four bytes of a number, the high one first.
func four(n int) string {
	return string([]byte{byte(n >> 24), byte(n >> 16), byte(n >> 8), byte(n)})
}
