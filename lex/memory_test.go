package lex_test

import (
	"slices"
	"strings"
	"testing"
	"unsafe"

	"palimpsest/api"
	"palimpsest/lex"
)

// lent tells a text that lies in bytes that can be changed behind a call.
func lent(b []byte) string {
	return unsafe.String(unsafe.SliceData(b), len(b))
}

// within tells whether some byte of s lies where one of b does.
func within(s string, b []byte) bool {
	if len(s) == 0 || len(b) == 0 {
		return false
	}
	first, from := uintptr(unsafe.Pointer(unsafe.StringData(s))), uintptr(unsafe.Pointer(unsafe.SliceData(b)))
	return first < from+uintptr(len(b)) && from < first+uintptr(len(s))
}

func texts() []string {
	return []string{
		"select a_1 <> 'it''s' -- x\n || 'plain' , ( 007 ) ; 'é' <=",
		"SELECT A, 'x'", "a", "'a'", "''''", "<", "||", "", "1", " -- ", "a ! b", "'a", "1x", "a |", strings.Repeat("b", 33), strings.Repeat("a ", 2048), strings.Repeat("a", 4097),
	}
}

// TestHandedIn: no call changes a text.
func TestHandedIn(t *testing.T) { // DOC's rule 3, 18.4
	for _, s := range texts() {
		b := []byte(s)
		lex.Words(lent(b))
		lex.Reserved(lent(b))
		lex.Name(lent(b))
		if string(b) != s {
			t.Errorf("%q is changed: %q", s, b)
		}
	}
}

// TestTextsAreNew: what is told lies nowhere in the bytes that were handed in, and does not change with them.
func TestTextsAreNew(t *testing.T) { // DOC's rule 3, 18.4
	for _, s := range texts() {
		b := []byte(s)
		l, e, at := lex.Words(lent(b))
		for _, x := range l {
			if within(x.Text, b) {
				t.Errorf("%#v of %q lies in what was handed in", x, s)
			}
		}
		for i := range b {
			b[i] = '!'
		}
		want, wantE, wantAt := wordly(s)
		if !slices.Equal(l, want) || e != wantE || at != wantAt {
			t.Errorf("what was told of %q has changed: %s", s, brief(l))
		}
	}
}

// TestListsAreNew: what is told can be written over, spare room too, and no other answer changes.
func TestListsAreNew(t *testing.T) { // DOC's rule 3, 18.4
	for _, s := range texts() {
		first, _, _ := lex.Words(s)
		second, _, _ := lex.Words(s)
		spare := second[:cap(second)]
		for i := range spare {
			spare[i] = api.Token{Kind: 71, Text: "spoilt", Int: 72, At: 73}
		}
		want, _, _ := wordly(s)
		third, _, _ := lex.Words(s)
		if !slices.Equal(first, want) || !slices.Equal(third, want) {
			t.Errorf("what was told of %q has changed: %s, %s", s, brief(first), brief(third))
		}
	}
}

// TestWrongTextsHaveNoTokens: nor any of their list's spare room.
func TestWrongTextsHaveNoTokens(t *testing.T) { // DOC's rule 4, 18.1
	for _, s := range []string{"a ! b", "a b c d e f 1x", "'a' 'b", "1 2 3 |", "a " + strings.Repeat("b", 33), strings.Repeat("a ", 2049), "!"} {
		if l, e, _ := lex.Words(s); e == api.OK || len(l) > 0 || cap(l) > 0 {
			t.Errorf("Words(%s) = %#v with room for %d, %d", brief(s), l, cap(l), e)
		}
	}
}

// TestNothingIsKept: what was asked before makes no difference.
func TestNothingIsKept(t *testing.T) { // DOC's rule 3
	for range 2 {
		reads(t, "a 'b'", word("a", 0), text("b", 2))
		misread(t, "a 'b", 2)
		reads(t, "--'b")
		names(t, "a", false, true)
		names(t, "as", true, false)
	}
}
