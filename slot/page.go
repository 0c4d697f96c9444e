package slot

import (
	"palimpsest/api"
)

const (
	countSize = 2
	nextSize  = 4
	headSize  = countSize + nextSize
	partSize  = 2
	slotSize  = 2 * partSize
	most      = (api.PageData - headSize) / slotSize // slots of a page
	greatest  = 1<<32 - 1                            // of Next
)

// record is what a slot holds. A record without bytes is there, too.
type record struct {
	there bool
	data  []byte
}

// page is what a page's bytes tell. The records of one that was read lie in those bytes still: nobody changes them.
type page struct {
	next  int
	slots []record
}

// read tells the page whose bytes p is. It minds every byte, so that no other bytes tell the same page.
func read(p []byte) (page, bool) {
	var g page
	var n, table, low int // how many slots; where their table ends; where the records read so far begin
	if len(p) != api.PageData {
		goto wrong
	}
	n, g.next = number(p[:countSize]), number(p[countSize:headSize])
	if n > most {
		goto wrong
	}
	table, low = headSize+n*slotSize, api.PageData
	g.slots = make([]record, n)
	for i := range n {
		at := headSize + i*slotSize
		where, size := number(p[at:at+partSize]), number(p[at+partSize:at+slotSize])-1
		if size < 0 && where != 0 {
			goto wrong
		}
		if size < 0 {
			continue
		}
		if size > api.MaxRow {
			goto wrong
		}
		if where < table || where+size != low {
			goto wrong
		}
		g.slots[i] = record{there: true, data: p[where:low]}
		low = where
	}
	if g.needed() != n {
		goto wrong
	}
	for _, b := range p[table:low] {
		if b != 0 {
			goto wrong
		}
	}
	return g, true
wrong:
	return page{}, false
}

// bytes lays out a page that has room for all it holds.
func (g page) bytes() []byte {
	p := make([]byte, api.PageData)
	lay(p[:countSize], len(g.slots))
	lay(p[countSize:headSize], g.next)
	low := len(p)
	for i, r := range g.slots {
		if !r.there {
			continue
		}
		low -= copy(p[low-len(r.data):low], r.data)
		at := headSize + i*slotSize
		lay(p[at:at+partSize], low)
		lay(p[at+partSize:at+slotSize], len(r.data)+1)
	}
	return p
}

// room tells how many bytes are between the table and the records; below 0, how many are lacking.
func (g page) room() int {
	n := api.PageData - headSize - len(g.slots)*slotSize
	for _, r := range g.slots {
		n -= len(r.data)
	}
	return n
}

// has tells whether a slot holds a record.
func (g page) has(slot int) bool {
	return slot >= 0 && slot < len(g.slots) && g.slots[slot].there
}

// least tells the first slot that is empty: the one behind the last, if none is.
func (g page) least() int {
	for i, r := range g.slots {
		if !r.there {
			return i
		}
	}
	return len(g.slots)
}

// needed tells how many slots there are without the empty ones at the end.
func (g page) needed() int {
	n := len(g.slots)
	for n > 0 && !g.slots[n-1].there {
		n--
	}
	return n
}

// number tells the number whose bytes these are, the highest first.
func number(b []byte) int {
	n := 0
	for _, x := range b {
		n = n<<8 | int(x)
	}
	return n
}

// lay makes b the bytes of n.
func lay(b []byte, n int) {
	for i := len(b) - 1; i >= 0; i-- {
		b[i] = byte(n)
		n >>= 8
	}
}
