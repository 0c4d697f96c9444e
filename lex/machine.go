package lex

import (
	"palimpsest/api"
)

// Kinds of bytes. The end of a statement is one too, so that nothing has to ask for it apart.
const (
	none = iota // begins nothing
	over        // the statement's end
	blank
	feed
	letter
	digit
	quote
	dash
	mark
)

// kind tells the kind of the byte at a place.
func kind(s string, at int) int {
	if at >= len(s) {
		return over
	}
	switch c := s[at]; c {
	case ' ', '\t', '\r':
		return blank
	case '\n':
		return feed
	case '\'':
		return quote
	case '-':
		return dash
	case '(', ')', ',', '.', '*', '+', '/', '%', '=', '<', '>', '|', ';':
		return mark
	default:
		if '0' <= c && c <= '9' {
			return digit
		}
		if 'a' <= c && c <= 'z' || 'A' <= c && c <= 'Z' || c == '_' {
			return letter
		}
	}
	return none
}

// start tells the first place from at on that is neither white nor in a remark.
func start(s string, at int) int {
white:
	switch kind(s, at) {
	case blank, feed:
		at++
		goto white
	case dash:
		if kind(s, at+1) == dash {
			goto remark
		}
	}
	return at
remark:
	switch kind(s, at) {
	case feed, over:
		goto white
	}
	at++
	goto remark
}

// stretch tells of which kind the token is that begins at a place, and where it ends: 0 and 0, if none begins there or it is wrong.
func stretch(s string, at int) (token, end int) {
	switch kind(s, at) {
	case letter:
		goto word
	case digit:
		goto number
	case quote:
		goto text
	case dash, mark:
		goto sign
	case over:
		return api.KEnd, at
	}
	goto wrong
word:
	at++
	switch kind(s, at) {
	case letter, digit:
		goto word
	}
	return api.KWord, at
number:
	at++
	switch kind(s, at) {
	case digit:
		goto number
	case letter:
		goto wrong
	}
	return api.KInt, at
text:
	at++
	switch kind(s, at) {
	case quote:
		goto quoted
	case over:
		goto wrong
	}
	goto text
quoted:
	at++
	if kind(s, at) == quote {
		goto text
	}
	return api.KText, at
sign:
	if n := longest(s[at:]); n > 0 {
		return api.KSign, at + n
	}
wrong:
	return 0, 0
}

// longest tells of how many bytes the longest sign is that a text with a sign's byte begins with: 0, if that byte is none alone.
func longest(s string) int {
	if len(s) > 1 {
		switch s[:2] {
		case "<>", "<=", ">=", "||":
			return 2
		}
	}
	if s[0] == '|' {
		return 0
	}
	return 1
}
