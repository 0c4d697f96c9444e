package lex

import (
	"strconv"
	"strings"

	"palimpsest/api"
)

const (
	mostLetters = 32 // bytes of a word
	mostDigits  = 19 // of a number, whatever it is
)

// next reads the first token from a place on, and tells where it ends. Of one that is wrong it tells its place in At.
func next(s string, at int) (t api.Token, end int, ok bool) {
	at = start(s, at)
	t.At = at
	t.Kind, end = stretch(s, at)
	switch t.Kind {
	case api.KWord:
		t.Text, ok = word(s[at:end])
	case api.KInt:
		t.Int, ok = number(s[at:end])
	case api.KText:
		t.Text, ok = said(s[at:end]), true
	case api.KSign:
		t.Text, ok = strings.Clone(s[at:end]), true
	case api.KEnd:
		ok = true
	}
	return t, end, ok
}

// word tells a word in small letters.
func word(s string) (string, bool) {
	if len(s) > mostLetters {
		return "", false
	}
	// ToLower alone tells s itself, if it is small already.
	return strings.Clone(strings.ToLower(s)), true
}

// number tells the number that digits spell.
func number(s string) (int, bool) {
	if len(s) > mostDigits {
		return 0, false
	}
	n, e := strconv.Atoi(s)
	if e != nil {
		return 0, false
	}
	return n, true
}

// said tells what a text says that stands between its quotes.
func said(s string) string {
	// ReplaceAll alone tells s itself, if it has no quotes within.
	return strings.Clone(strings.ReplaceAll(s[1:len(s)-1], "''", "'"))
}
