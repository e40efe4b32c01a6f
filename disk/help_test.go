package disk_test

import (
	"testing"

	"relstore/api"
	"relstore/disk"
)

// has: are these the bytes of both files?
func has(t *testing.T, d *disk.Disk, want ...string) {
	t.Helper()
	for f, w := range want {
		n, e := d.Size(f)
		if n != len(w) || e != api.OK {
			t.Fatalf("file %d: size %d, %v; want %d", f, n, e, len(w))
		}
		if s, e := d.Read(f, 0, n); s != w || e != api.OK {
			t.Fatalf("file %d: %q, %v; want %q", f, s, e, w)
		}
	}
}

// tells: what the disk says of itself.
func tells(t *testing.T, d *disk.Disk, count, waits int, down bool) {
	t.Helper()
	if d.Count() != count || d.Waits() != waits || d.Down() != down {
		t.Fatalf("count %d, waits %d, down %v; want %d, %d, %v", d.Count(), d.Waits(), d.Down(), count, waits, down)
	}
}

// is: was this the answer?
func is(t *testing.T, e, want api.Errno) {
	t.Helper()
	if e != want {
		t.Fatalf("answer %v, want %v", e, want)
	}
}

// put: writes that must be done.
func put(t *testing.T, d *disk.Disk, f, at int, s string) {
	t.Helper()
	is(t, d.Write(f, at, s), api.OK)
}

// op: a call with a file, by its name, with its arguments (of a write: the length of a text).
type op struct {
	name     string
	f, at, n int
}

// ask a disk; what comes beside an error must be zero.
func (o op) ask(t *testing.T, d *disk.Disk) api.Errno {
	t.Helper()
	var s string
	var n int
	var e api.Errno
	switch o.name {
	case "Read":
		s, e = d.Read(o.f, o.at, o.n)
	case "Write":
		e = d.Write(o.f, o.at, string(make([]byte, o.n)))
	case "Cut":
		e = d.Cut(o.f, o.at)
	case "Size":
		n, e = d.Size(o.f)
	case "Sync":
		e = d.Sync(o.f)
	default:
		t.Fatalf("no such call: %s", o.name)
	}
	if e != api.OK && (s != "" || n != 0) {
		t.Errorf("%v: %q, %d beside %v", o, s, n, e)
	}
	return e
}
