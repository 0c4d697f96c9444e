package store

import (
	"bytes"

	"palimpsest/api"
	"palimpsest/dev"
)

const (
	masters  = 2       // sectors, from the device's first on
	farthest = 1 << 40 // where a ring may start
)

// master says where the log starts. There are two by turns: while one is being written the other counts.
type master struct {
	number  int
	start   int
	commits int // ahead of start
	next    int
}

// findMaster tells the newest master; its number is 0, if there is none.
func findMaster(d *dev.Dev) (master, api.Errno) {
	var newest master
	for i := range masters {
		b, e := d.Read(i)
		if e != api.OK {
			return master{}, e
		}
		if m := masterOf(b); m.number%masters == i && m.number > newest.number {
			newest = m
		}
	}
	return newest, api.OK
}

// masterOf reads a master. One that is not whole is none: the other counts then.
func masterOf(b []byte) master {
	var m master
	for i, field := range m.fields() {
		n, ok := number(b[i*numberSize:])
		if !ok {
			return master{}
		}
		*field = n
	}
	if m.start > farthest || !bytes.Equal(m.sector(), b) {
		return master{}
	}
	return m
}

// sector makes the bytes of a master.
func (m master) sector() []byte {
	b := make([]byte, api.SectorSize)
	for i, field := range m.fields() {
		putNumber(b[i*numberSize:], *field)
	}
	return b
}

// fields tells a master's numbers in the order in which they lie.
func (m *master) fields() []*int {
	return []*int{&m.number, &m.start, &m.commits, &m.next}
}
