package patch_test

import (
	"bytes"
	"testing"

	"palimpsest/api"
	"palimpsest/dev"
	"palimpsest/patch"
	"palimpsest/store"
)

func opened(t *testing.T) (*store.Store, int) {
	t.Helper()
	d, _ := dev.New(512)
	s, e := store.Open(d, 2)
	if e != api.OK {
		t.Fatal(e)
	}
	x, e := s.Begin()
	if e != api.OK {
		t.Fatal(e)
	}
	return s, x
}

// DOC: a page is changed by one Write, from the first byte that changes to the last one; by none, if nothing changes.
func TestPage(t *testing.T) {
	s, x := opened(t)
	b := make([]byte, 504)
	for _, c := range []struct{ first, last int }{{7, 7}, {3, 20}, {0, 1}, {503, 503}, {0, 503}, {0, 0}} {
		b[c.first]++
		if c.last > c.first {
			b[c.last]++
		}
		n := len(s.Log())
		if e := patch.Page(s, x, 5, b); e != api.OK {
			t.Fatal(e)
		}
		l := s.Log()[n:]
		if len(l) != 1 || l[0].Rec.Page != 5 || l[0].Rec.Off != c.first || !bytes.Equal(l[0].Rec.After, b[c.first:c.last+1]) {
			t.Fatalf("bytes %d to %d: the records are %v", c.first, c.last, l)
		}
		if is, e := s.Read(5, 0, 504); !bytes.Equal(is, b) || e != api.OK {
			t.Fatalf("the page is %x, %d", is, e)
		}
		if e := patch.Page(s, x, 5, b); e != api.OK || len(s.Log()) != n+1 {
			t.Fatalf("answered %d, %d records", e, len(s.Log())-n)
		}
	}
}

// What the store refuses is answered, and bytes that are no page.
func TestRefused(t *testing.T) {
	s, x := opened(t)
	b := make([]byte, 504)
	for _, p := range []int{-1, s.Pages(), 1 << 40} {
		if e := patch.Page(s, x, p, b); e != api.ErrArg {
			t.Errorf("page %d: %d", p, e)
		}
	}
	for _, n := range []int{0, 503, 505} {
		if e := patch.Page(s, x, 1, bytes.Repeat([]byte{1}, n)); e != api.ErrArg {
			t.Errorf("%d bytes: %d", n, e)
		}
	}
	if e := patch.Page(s, 99, 1, b); e != api.OK { // nothing changes
		t.Error(e)
	}
	b[9] = 1
	if e := patch.Page(s, 99, 1, b); e != api.ErrNone {
		t.Error(e)
	}
	y, _ := s.Begin()
	if patch.Page(s, x, 1, b) != api.OK {
		t.Error("refused")
	}
	b[9] = 2
	if e := patch.Page(s, y, 1, b); e != api.ErrBusy {
		t.Error(e)
	}
}
