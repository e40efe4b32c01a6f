package wal

import (
	"strings"

	"relstore/api"
	"relstore/disk"
)

// How the log's file is laid out: the mark, two slots, frames.
const (
	mark       = "relstore log 001"
	slotSize   = 24
	framesAt   = len(mark) + 2*slotSize
	numberSize = 4 // bytes of a page's number, ahead of the page
	frameSize  = numberSize + api.PageSize
)

// commit: its number, how many frames count and how many pages there are; and which slot tells it. Number 0: there is none.
type commit struct {
	slot, number, frames, pages int
}

// text of the slot: all of it twice, so that half of it is not right.
func (c commit) text() string {
	half := four(c.number) + four(c.frames) + four(c.pages)
	return half + half
}

// following commit: told by the other slot, so that this one is there till that one lasts.
func (c commit) following(frames, pages int) commit {
	return commit{slot: 1 - c.slot, number: next(c.number), frames: frames, pages: pages}
}

// next number behind a commit's.
func next(number int) int { return number%3 + 1 }

// slotAt tells where a slot stands.
func slotAt(slot int) int { return len(mark) + slotSize*slot }

// frameAt tells where a frame stands.
func frameAt(frame int) int { return framesAt + frameSize*frame }

// lastCommit that a disk's log tells; none if no slot is right.
func lastCommit(d *disk.Disk) (commit, api.Errno) {
	size, e := d.Size(logFile)
	if e != api.OK {
		return commit{}, e
	}
	head, e := d.Read(logFile, 0, min(size, framesAt))
	if e != api.OK || !strings.HasPrefix(head, mark) {
		return commit{}, e
	}
	first, second := told(head, 0, size), told(head, 1, size)
	if first.number == 0 || second.number == next(first.number) {
		return second, api.OK
	}
	return first, api.OK
}

// told by a slot of a log's file of this size; none if the slot is not right.
func told(head string, slot, size int) commit {
	at := slotAt(slot)
	if len(head) < at+slotSize {
		return commit{}
	}
	c := commit{slot: slot, number: number(head, at), frames: number(head, at+4), pages: number(head, at+8)}
	if c.number < 1 || c.number > 3 || c.text() != head[at:at+slotSize] {
		return commit{}
	}
	if c.frames > 0 && frameAt(c.frames) > size {
		return commit{}
	}
	return c
}

// four bytes of a number, the high one first.
func four(n int) string {
	return string([]byte{byte(n >> 24), byte(n >> 16), byte(n >> 8), byte(n)})
}

// number that four bytes tell, the high one first.
func number(s string, at int) int {
	n := 0
	for i := range 4 {
		n = n<<8 | int(s[at+i])
	}
	return n
}
