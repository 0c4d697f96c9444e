// Package dev is a device of sectors that may fail at any write: what is written lies in a cache until it is synced, and a crash keeps of the cache only what it is told to keep.
package dev

import (
	"slices"

	"palimpsest/api"
)

// noFuse stands for all numbers below 0: 0 itself is a fuse that has burnt down.
const noFuse = -1

type sector [api.SectorSize]byte

// write holds the bytes themselves, not a slice of them, so that copying the list copies all that it holds.
type write struct {
	at   int
	data sector
}

// Dev is a device. Of the writes in the cache none is dropped for a later one to the same sector: a crash may keep the one and lose the other.
type Dev struct {
	lasting []sector
	cache   []write
	fuse    int
	dead    bool
	calls   int
}

// New makes a device of n sectors, all noughts.
func New(n int) (*Dev, api.Errno) {
	if n < 1 || n > api.MaxSectors {
		return nil, api.ErrArg
	}
	return &Dev{lasting: make([]sector, n), fuse: noFuse}, api.OK
}

// Size tells how many sectors there are.
func (d *Dev) Size() int {
	return len(d.lasting)
}

// Read tells sector i as it was written last, whether that was synced or not.
func (d *Dev) Read(i int) ([]byte, api.Errno) {
	if d.dead {
		return nil, api.ErrDead
	}
	if !d.has(i) {
		return nil, api.ErrArg
	}
	d.calls++
	s := d.newest(i)
	b := make([]byte, api.SectorSize)
	copy(b, s[:])
	return b, api.OK
}

// Write lays b into the cache as the newest bytes of sector i.
func (d *Dev) Write(i int, b []byte) api.Errno {
	if d.dead {
		return api.ErrDead
	}
	if !d.has(i) || len(b) != api.SectorSize {
		return api.ErrArg
	}
	if !d.burn() {
		return api.ErrDead
	}
	d.calls++
	w := write{at: i}
	copy(w.data[:], b)
	d.cache = append(d.cache, w)
	return api.OK
}

// Sync makes all that lies in the cache lasting.
func (d *Dev) Sync() api.Errno {
	if d.dead || !d.burn() {
		return api.ErrDead
	}
	d.calls++
	for _, w := range d.cache {
		d.lasting[w.at] = w.data
	}
	d.cache = nil
	return api.OK
}

// Pending tells how many writes lie in the cache.
func (d *Dev) Pending() int {
	return len(d.cache)
}

// Calls tells how many Reads, Writes and Syncs answered OK since New.
func (d *Dev) Calls() int {
	return d.calls
}

// Fuse lets k more Writes and Syncs go well; below 0 there is no fuse. It does not wake a dead device: only a crash does.
func (d *Dev) Fuse(k int) {
	d.fuse = k
}

// Dead tells whether the device is dead.
func (d *Dev) Dead() bool {
	return d.dead
}

// Crash makes lasting what keep says of the cache, loses the rest, and starts the device anew, without a fuse.
func (d *Dev) Crash(keep []bool) {
	for i, w := range d.cache {
		if i < len(keep) && keep[i] {
			d.lasting[w.at] = w.data
		}
	}
	d.cache = nil
	d.dead = false
	d.fuse = noFuse
}

// Copy makes another device that is the same and shares nothing with this one.
func (d *Dev) Copy() *Dev {
	c := *d
	c.lasting = slices.Clone(d.lasting)
	c.cache = slices.Clone(d.cache)
	return &c
}

func (d *Dev) has(i int) bool {
	return i >= 0 && i < len(d.lasting)
}

// newest looks from the cache's end, since a later write hides an earlier one.
func (d *Dev) newest(i int) sector {
	for k := len(d.cache) - 1; k >= 0; k-- {
		if d.cache[k].at == i {
			return d.cache[k].data
		}
	}
	return d.lasting[i]
}

// burn takes one step of the fuse, and tells whether there was one left to take; the device dies here and nowhere else.
func (d *Dev) burn() bool {
	switch {
	case d.fuse == 0:
		d.dead = true
		return false
	case d.fuse > 0:
		d.fuse--
	}
	return true
}
