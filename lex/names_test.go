package lex_test

import (
	"strings"
	"testing"

	"palimpsest/api"
	"palimpsest/lex"
)

// reserved are the words of 18.2.
func reserved() []string {
	return strings.Fields(`all and as asc begin between bool by coalesce column commit count create delete desc distinct drop end exists explain false from group having in index inner insert int into is join key length limit max min not null offset on or order primary release rollback savepoint select set sum table text to true unique update values where`)
}

func listed(s string) bool {
	for _, x := range reserved() {
		if x == s {
			return true
		}
	}
	return false
}

// names wants Reserved and Name to tell this of a text.
func names(t *testing.T, s string, isReserved, isName bool) {
	t.Helper()
	if got := lex.Reserved(s); got != isReserved {
		t.Errorf("Reserved(%s) = %v", brief(s), got)
	}
	if got := lex.Name(s); got != isName {
		t.Errorf("Name(%s) = %v", brief(s), got)
	}
}

func TestReserved(t *testing.T) { // 18.2
	if len(reserved()) != 58 {
		t.Fatalf("%d words", len(reserved()))
	}
	for _, s := range reserved() {
		names(t, s, true, false)
		names(t, strings.ToUpper(s), false, false)
		names(t, strings.ToUpper(s[:1])+s[1:], false, false)
		reads(t, strings.ToUpper(s), word(s, 0))
		for _, x := range []string{s + "s", s + "e", s + "_", s + "1", "_" + s, "x" + s, s[:len(s)-1], s[1:], s + s} {
			names(t, x, listed(x), x != "" && !listed(x))
		}
		for _, x := range []string{s + " ", " " + s, s + ";", "'" + s + "'", "1" + s, s + "\x00", s + "--", s + " " + s, s + "\n"} {
			names(t, x, false, false)
		}
	}
	for _, s := range []string{"all and", "all,and", "all\nand", "alland all", "where all"} {
		names(t, s, false, false)
	}
}

func TestNames(t *testing.T) { // 18.2
	long := strings.Repeat("abcdefg_", 4)
	for _, s := range []string{"a", "z", "_", "__", "_1", "a1", "t0", "z_9", "abs", "avg", "inne", "like", "double", "update_", "selec", "left", "cross", "using", "char", "key_", "row", long, long[1:] + "1", strings.Repeat("_", 32), "a" + strings.Repeat("0", 31), strings.Repeat("z", 31)} {
		names(t, s, false, true)
		reads(t, s, word(s, 0))
	}
	for _, s := range []string{
		"", " ", "A", "aB", "a b", "a ", " a", "a\n", "\ta", "a;", "a.b", "a--", "a--x", "--\na", "--", "1", "1a", "9", "0_", "-", "-a", "*", "<>", "|", "''", "'a'", "a'", "a''", "!", "a!", "\x00", "a\x00", "\x00a",
		"é", "aé", "\xFF", "a\xFF", "\u212A", "a\u212A", "\u017F", "Abs", "ABS", long + "a", strings.Repeat("_", 33), "a" + strings.Repeat("0", 32), strings.ToUpper(long), "1" + long[1:],
		strings.Repeat("a", 4096), strings.Repeat("a", 4097), strings.Repeat("a", 1<<16), strings.Repeat(" ", 1<<16), "a" + strings.Repeat(" ", 5000), strings.Repeat("'", 1<<16),
	} {
		names(t, s, false, false)
	}
}

// TestEveryShortName: of all texts of up to two bytes, and of many of three, Name tells those that are read as one word that is themselves, and that is not reserved.
func TestEveryShortName(t *testing.T) { // 18.2
	var tell func(s string, left int)
	tell = func(s string, left int) {
		l, e, _ := lex.Words(s)
		one := e == api.OK && len(l) == 2 && l[0].Kind == api.KWord && l[0].Text == s
		if lex.Reserved(s) != listed(s) || lex.Name(s) != (one && !listed(s)) {
			t.Fatalf("Reserved(%q) = %v, Name(%q) = %v", s, lex.Reserved(s), s, lex.Name(s))
		}
		for c := range 256 {
			if left > 0 {
				tell(s+string([]byte{byte(c)}), left-1)
			}
		}
	}
	tell("", 2)
	for _, s := range []string{"as", "o", "se", "al", "b", "t", "no"} {
		tell(s, 1)
	}
}
