package lex_test

import (
	"fmt"
	"math"
	"slices"
	"strings"
	"testing"

	"palimpsest/api"
	"palimpsest/lex"
)

const most = math.MaxInt

func word(s string, at int) api.Token { return api.Token{Kind: api.KWord, Text: s, At: at} }
func num(n, at int) api.Token         { return api.Token{Kind: api.KInt, Int: n, At: at} }
func text(s string, at int) api.Token { return api.Token{Kind: api.KText, Text: s, At: at} }
func sign(s string, at int) api.Token { return api.Token{Kind: api.KSign, Text: s, At: at} }
func end(at int) api.Token            { return api.Token{Kind: api.KEnd, At: at} }

// signs are all of 18.1.
func signs() []string {
	return []string{"<>", "<=", ">=", "||", "(", ")", ",", ".", "*", "+", "-", "/", "%", "=", "<", ">", ";"}
}

// brief spells what can be very long.
func brief(x any) string {
	s := fmt.Sprintf("%#v", x)
	if len(s) > 500 {
		s = s[:500] + " .."
	}
	return s
}

// reads wants a text to be just these tokens, the last of them its end.
func reads(t *testing.T, s string, want ...api.Token) {
	t.Helper()
	want = append(want, end(len(s)))
	l, e, at := lex.Words(s)
	if e != api.OK || at != 0 || !slices.Equal(l, want) {
		t.Errorf("Words(%s) = %s, %d, %d; want %s", brief(s), brief(l), e, at, brief(want))
	}
}

// wrong wants a text to be told with an error, a place and no tokens.
func wrong(t *testing.T, s string, err api.Errno, place int) {
	t.Helper()
	l, e, at := lex.Words(s)
	if len(l) > 0 || e != err || at != place {
		t.Errorf("Words(%s) = %s, %d, %d; want no tokens, %d, %d", brief(s), brief(l), e, at, err, place)
	}
}

// misread wants a text to be wrong at a place.
func misread(t *testing.T, s string, place int) {
	t.Helper()
	wrong(t, s, api.ErrSyntax, place)
}

func TestExamples(t *testing.T) { // 18.1
	reads(t, "SELECT a<>'it''s' -- x", word("select", 0), word("a", 7), sign("<>", 8), text("it's", 10))
	misread(t, "a ! b", 2)
	misread(t, "1x", 0)
}

func TestWhite(t *testing.T) { // 18.1
	reads(t, "")
	for _, c := range []string{" ", "\t", "\n", "\r"} {
		reads(t, c)
		reads(t, c+c+c)
		reads(t, c+"a"+c+c+"1"+c, word("a", 1), num(1, 4))
		reads(t, "'"+c+"'"+c+"'"+c+"'", text(c, 0), text(c, 4))
		reads(t, "<"+c+">", sign("<", 0), sign(">", 2))
		reads(t, "-"+c+"-", sign("-", 0), sign("-", 2))
		misread(t, "|"+c+"|", 0)
		misread(t, c+"!", 1)
	}
	reads(t, " \t\r\n\n\r\t ")
	for _, c := range []string{"\v", "\f", "\b", "\x00", "\x85", "\xA0", "\u00A0", "\u2028", "\uFEFF"} {
		misread(t, c, 0)
		misread(t, "a "+c+"b", 2)
	}
}

func TestRemarks(t *testing.T) { // 18.1
	for _, s := range []string{"--", "---", "----", "--\n", "---\n", "--x", "--x\n", " -- x \n ", "--it's", "--'\n", "--\n--", "--x\n--y\n", "-- ! \" | \x00 \xFF é 1x", "--\r--x", "--" + strings.Repeat("a", 50), "--99999999999999999999"} {
		reads(t, s)
	}
	reads(t, "--x\na", word("a", 4))
	reads(t, "--\na", word("a", 3))
	reads(t, "--x\ra")
	reads(t, "a--x\nb--y", word("a", 0), word("b", 5))
	reads(t, "a -- x -- y\n-- z\n\n b", word("a", 0), word("b", 19))
	reads(t, "'--'--'", text("--", 0))
	reads(t, "'a--\nb'", text("a--\nb", 0))
	misread(t, "--x\n!", 4)
	misread(t, "--'\n'", 4)
	misread(t, "a--b\n--\n1_", 8)
	misread(t, "'--\n", 0)
}

// TestRemarksBehindTokens: `--` right behind a token of whatever kind begins a remark, up to a line feed or the end.
func TestRemarksBehindTokens(t *testing.T) { // 18.1
	tokens := []api.Token{word("a", 0), word("_1", 0), word(strings.Repeat("x", 32), 0), num(0, 0), num(most, 0), text("", 0), text("it's", 0), text("--", 0)}
	for _, s := range signs() {
		if s != "-" {
			tokens = append(tokens, sign(s, 0))
		}
	}
	for _, x := range tokens {
		s := spelt(x)
		reads(t, s+"--", x)
		reads(t, s+"---", x)
		reads(t, s+"--x ! '", x)
		reads(t, s+"--\n--\n", x)
		reads(t, s+"--'\nb", x, word("b", len(s)+4))
		misread(t, s+"--\n|", len(s)+3)
	}
	reads(t, "- --", sign("-", 0))
	reads(t, "- --x\n-", sign("-", 0), sign("-", 6))
}

func TestDashes(t *testing.T) { // 18.1
	reads(t, "-", sign("-", 0))
	reads(t, " - ", sign("-", 1))
	reads(t, "-a", sign("-", 0), word("a", 1))
	reads(t, "a-b", word("a", 0), sign("-", 1), word("b", 2))
	reads(t, "1-1", num(1, 0), sign("-", 1), num(1, 2))
	reads(t, "-9223372036854775807", sign("-", 0), num(most, 1))
	reads(t, "- -1", sign("-", 0), sign("-", 2), num(1, 3))
	reads(t, "-'-'-", sign("-", 0), text("-", 1), sign("-", 4))
	reads(t, "-\n-", sign("-", 0), sign("-", 2))
	reads(t, "--1")
	reads(t, "(-)", sign("(", 0), sign("-", 1), sign(")", 2))
	misread(t, "-!", 1)
	misread(t, "-9223372036854775808", 1)
}

// TestLength: a text of 4,097 bytes is too long, whatever they are; of one of 4,096 bytes each is read.
func TestLength(t *testing.T) { // 18.1
	full := func(s string) string { return strings.Repeat(s, api.MaxText/len(s)) }
	reads(t, full(" "))
	reads(t, "--"+full(" ")[2:])
	reads(t, full(" ")[1:]+"a", word("a", 4095))
	reads(t, "'"+full("x")[2:]+"'", text(full("x")[2:], 0))
	reads(t, full("'"), text(full("'")[2049:], 0))
	for s, want := range map[string]api.Token{"a ": word("a", 0), "(": sign("(", 0), "||": sign("||", 0), "7\n": num(7, 0), "''--b--\n": text("", 0)} {
		var l []api.Token
		for at := 0; at < api.MaxText; at += len(s) {
			want.At = at
			l = append(l, want)
		}
		reads(t, full(s), l...)
		wrong(t, full(s)+" ", api.ErrLong, 0)
	}
	for _, s := range []string{" ", "a", "'", "|", "!", "\x00", "\xFF", "1", "--"} {
		wrong(t, full(s)+s[:1], api.ErrLong, 0)
		wrong(t, s+full(" ")+"!", api.ErrLong, 0)
	}
	misread(t, full("!"), 0)
	misread(t, full("a"), 0)
	misread(t, full("1"), 0)
	misread(t, full(" ")[1:]+"!", 4095)
	misread(t, full(" ")[1:]+"'", 4095)
	misread(t, full("|")[1:], 4094)
	misread(t, "''"+full("'")[3:], 0)
	misread(t, full(" ")[2:]+"1x", 4094)
	misread(t, full(" ")[33:]+strings.Repeat("a", 33), 4063)
	reads(t, full(" ")[32:]+strings.Repeat("a", 32), word(strings.Repeat("a", 32), 4064))
	wrong(t, strings.Repeat("a ", 1<<20), api.ErrLong, 0)
}

func TestWords(t *testing.T) { // 18.1
	first := "abcdefghijklmnopqrstuvwxyzABCDEFGHIJKLMNOPQRSTUVWXYZ_"
	for i := range first {
		c := first[i : i+1]
		reads(t, c, word(strings.ToLower(c), 0))
		reads(t, strings.Repeat(c, 32), word(strings.Repeat(strings.ToLower(c), 32), 0))
		misread(t, strings.Repeat(c, 33), 0)
	}
	for _, s := range []string{strings.Repeat("aB_9", 8), "_23456789_123456789_123456789_12", "Zz" + strings.Repeat("0", 30)} {
		for i := range 32 {
			for _, c := range []string{"a", "z", "A", "Z", "_", "0", "9", "m", "M"} {
				if i == 0 && (c == "0" || c == "9") {
					misread(t, c+s[1:], 0)
					continue
				}
				x := s[:i] + c + s[i+1:]
				reads(t, x, word(strings.ToLower(x), 0))
				misread(t, "; "+x+c, 2)
			}
		}
	}
	reads(t, "A1 b_C", word("a1", 0), word("b_c", 3))
	reads(t, "select SELECT sElEcT selects", word("select", 0), word("select", 7), word("select", 14), word("selects", 21))
	reads(t, "a.b", word("a", 0), sign(".", 1), word("b", 2))
	reads(t, "a'b'c", word("a", 0), text("b", 1), word("c", 4))
	misread(t, strings.Repeat("a", 100), 0)
	misread(t, "a "+strings.Repeat("_", 33)+" !", 2)
	misread(t, "aé", 1)
	misread(t, "\u212A", 0) // it is a k in small letters, but none in 18.1
	misread(t, "K\u212A", 1)
	misread(t, "\u0130", 0)
}

func TestNumbers(t *testing.T) { // 18.1
	for s, want := range map[string]int{
		"0": 0, "9": 9, "00": 0, "007": 7, "10": 10, "1234567890": 1234567890,
		"9223372036854775807": most, "0922337203685477580": 922337203685477580, "1000000000000000000": 1e18,
		"0000000000000000000": 0, "0000000000000000001": 1, "0000000000000000010": 10, "999999999999999999": 1e18 - 1,
		"9223372036854775799": most - 8, "2147483648": 1 << 31, "4294967296": 1 << 32,
	} {
		reads(t, s, num(want, 0))
		reads(t, "a "+s+" b", word("a", 0), num(want, 2), word("b", len(s)+3))
		for _, x := range signs() {
			if x != "-" {
				reads(t, x+s+x, sign(x, 0), num(want, len(x)), sign(x, len(x)+len(s)))
			}
		}
		reads(t, s+"-"+s, num(want, 0), sign("-", len(s)), num(want, len(s)+1))
		reads(t, s+"'1'"+s, num(want, 0), text("1", len(s)), num(want, len(s)+3))
		reads(t, s+"\n"+s, num(want, 0), num(want, len(s)+1))
		for _, x := range []string{"x", "X", "a", "z", "A", "Z", "_", "e5", "_1", "a1", "x!"} {
			misread(t, s+x, 0)
			misread(t, "- "+s+x+" 1", 2)
		}
		for _, x := range []string{"!", "\"", "\x00", "é", "|", "|x", "'", "@", "[", "`", "{", ":"} {
			misread(t, s+x, len(s))
		}
	}
	for _, s := range []string{
		"9223372036854775808", "9223372036854775809", "9223372036854775810", "9999999999999999999", "18446744073709551616",
		"09223372036854775807", "00000000000000000000", "00000000000000000001", "92233720368547758070", "10000000000000000000",
		"18446744073709551617", "36893488147419103233", strings.Repeat("0", 40), strings.Repeat("9", 400),
	} {
		misread(t, s, 0)
		misread(t, "a, "+s+" ,", 3)
		misread(t, "1 "+s+"x", 2)
	}
	reads(t, "1.5", num(1, 0), sign(".", 1), num(5, 2))
	reads(t, "1 2", num(1, 0), num(2, 2))
	reads(t, "+1", sign("+", 0), num(1, 1))
	misread(t, "1e5", 0)
	misread(t, "0x10", 0)
	misread(t, "1_000", 0)
	misread(t, "\u0661", 0)
}

func TestTexts(t *testing.T) { // 18.1
	for s, want := range map[string]string{
		"''": "", "'a'": "a", "''''": "'", "''''''": "''", "'''a'": "'a", "'a'''": "a'", "'a''b'": "a'b", "'''a''b'''": "'a'b'",
		"'a''''b'": "a''b", "' '": " ", "'\n'": "\n", "'a\r\n\tb'": "a\r\n\tb", "'\x00'": "\x00", "'\x00''\x00'": "\x00'\x00",
		"'\x80\xFF'": "\x80\xFF", "'é'": "é", "'\"!|'": "\"!|", "'--'": "--", "'SELECT a'": "SELECT a", "'\\'": "\\", "'1'": "1", "' '' '": " ' ",
	} {
		reads(t, s, text(want, 0))
		reads(t, " "+s+" ", text(want, 1))
		reads(t, s+"a", text(want, 0), word("a", len(s)))
		reads(t, s+"1", text(want, 0), num(1, len(s)))
		reads(t, s+" "+s, text(want, 0), text(want, len(s)+1))
		reads(t, "("+s+"||"+s+")", sign("(", 0), text(want, 1), sign("||", 1+len(s)), text(want, 3+len(s)), sign(")", 3+2*len(s)))
		reads(t, s+s, text(want+"'"+want, 0))
		misread(t, s+"'", 0)
		misread(t, s+" '", len(s)+1)
		misread(t, s[:len(s)-1], 0)
		misread(t, s+"!", len(s))
	}
	for _, s := range []string{"'", "'''", "'''''", "'a", "'a''", "'''a", "'''a''", "'a''b''", "'\n", "'\x00", "'\xFF", "'é''", "'--", "' ", "'a''--\n", "'|!\"", "'''''''", "'a\n''b"} {
		misread(t, s, 0)
		misread(t, "x, "+s, 3)
		misread(t, "'x' "+s, 4)
	}
	every := ""
	for c := range 256 {
		b := string([]byte{byte(c)})
		if b == "'" {
			continue
		}
		every += b
		reads(t, "'"+b+"'", text(b, 0))
		reads(t, "'"+b+"''"+b+b+"'", text(b+"'"+b+b, 0))
		misread(t, "'"+b, 0)
	}
	reads(t, "'"+every+"'", text(every, 0))
}

func TestSigns(t *testing.T) { // 18.1
	for _, s := range signs() {
		reads(t, s, sign(s, 0))
		reads(t, " "+s+" "+s, sign(s, 1), sign(s, 2+len(s)))
		reads(t, "a"+s+"b", word("a", 0), sign(s, 1), word("b", 1+len(s)))
		reads(t, "''"+s+"''", text("", 0), sign(s, 2), text("", 2+len(s)))
	}
	reads(t, "<=>", sign("<=", 0), sign(">", 2))
	reads(t, "<>=", sign("<>", 0), sign("=", 2))
	reads(t, "<<>>", sign("<", 0), sign("<>", 1), sign(">", 3))
	reads(t, "<<=", sign("<", 0), sign("<=", 1))
	reads(t, ">>==", sign(">", 0), sign(">=", 1), sign("=", 3))
	reads(t, "=<", sign("=", 0), sign("<", 1))
	reads(t, "=>", sign("=", 0), sign(">", 1))
	reads(t, "><", sign(">", 0), sign("<", 1))
	reads(t, "==", sign("=", 0), sign("=", 1))
	reads(t, "||||", sign("||", 0), sign("||", 2))
	reads(t, "<-", sign("<", 0), sign("-", 1))
	reads(t, "< >", sign("<", 0), sign(">", 2))
	reads(t, "()", sign("(", 0), sign(")", 1))
	reads(t, "a<=1;", word("a", 0), sign("<=", 1), num(1, 3), sign(";", 4))
}

// TestPairsOfSigns: of two signs one right behind the other the longest that stand there are told, from the left.
func TestPairsOfSigns(t *testing.T) { // 18.1
	other := map[string][]string{ // what is read otherwise than as the two
		"< >": {"<>"}, "< =": {"<="}, "> =": {">="}, "- -": {},
		"< >=": {"<>", "="},
	}
	for _, a := range signs() {
		for _, b := range signs() {
			l, ok := other[a+" "+b]
			if !ok {
				l = []string{a, b}
			}
			var want []api.Token
			at := 0
			for _, s := range l {
				want = append(want, sign(s, at))
				at += len(s)
			}
			reads(t, a+b, want...)
			reads(t, a+" "+b, sign(a, 0), sign(b, len(a)+1))
		}
	}
}

func TestBars(t *testing.T) { // 18.1
	misread(t, "|", 0)
	misread(t, "|||", 2)
	misread(t, "a|b", 1)
	misread(t, "a |", 2)
	misread(t, "|=", 0)
	misread(t, "| |", 0)
	misread(t, "|--", 0)
	misread(t, "|'|'", 0)
	misread(t, "a||b|", 4)
	reads(t, "a||b", word("a", 0), sign("||", 1), word("b", 3))
	reads(t, "'|'||'|'", text("|", 0), sign("||", 3), text("|", 5))
}

// TestWrongBytes: a byte with which no token begins is told by its place, alone and behind whatever was right.
func TestWrongBytes(t *testing.T) { // 18.1, W12
	right := []string{"a", "1", "''", "'it''s'", "(", "<", "<=", "||", "a b 1", "select a from t;", "-", "\n", "--x\n", strings.Repeat("z", 32), "9223372036854775807"}
	n := 0
	for c := range 256 {
		b := string([]byte{byte(c)})
		if c < 128 && strings.Contains(" \t\n\r'_(),.*+-/%=<>;0123456789abcdefghijklmnopqrstuvwxyzABCDEFGHIJKLMNOPQRSTUVWXYZ", b) {
			continue
		}
		n++
		misread(t, b, 0)
		misread(t, b+" "+b, 0)
		for _, s := range right {
			if b == "|" && strings.HasSuffix(s, "|") {
				continue
			}
			misread(t, s+b, len(s))
			misread(t, s+" "+b, len(s)+1)
			misread(t, s+"\n"+b+" !", len(s)+1)
			misread(t, s+"\n"+b+"1x", len(s)+1)
			misread(t, s+"\n"+b+"'", len(s)+1)
		}
	}
	if n != 256-81 {
		t.Errorf("%d bytes begin nothing", n)
	}
}

// TestTheFirstFault: of several faults the first is told.
func TestTheFirstFault(t *testing.T) { // 18.1
	misread(t, "! 1x 'a", 0)
	misread(t, "1x ! 'a", 0)
	misread(t, "a 'b ! 1x", 2)
	misread(t, "'a' "+strings.Repeat("b", 33)+" 1x !", 4)
	misread(t, "a 99999999999999999999 |", 2)
	misread(t, "1 | 'a", 2)
	misread(t, "a --!\n? !", 6)
}

func TestPlaces(t *testing.T) { // 18.1
	s := "INSERT INTO t (a, B2)\n\tVALUES (1, 'it''s'),(007,'') -- two\r\n, (- 3*x.y||'é', a<=b);"
	at := func(x string) int { return strings.Index(s, x) }
	reads(t, s,
		word("insert", 0), word("into", 7), word("t", 12), sign("(", 14), word("a", 15), sign(",", 16), word("b2", 18), sign(")", 20),
		word("values", 23), sign("(", 30), num(1, 31), sign(",", 32), text("it's", 34), sign(")", 41), sign(",", 42),
		sign("(", 43), num(7, 44), sign(",", 47), text("", 48), sign(")", 50),
		sign(",", 60), sign("(", 62), sign("-", 63), num(3, 65), sign("*", 66), word("x", 67), sign(".", 68), word("y", 69),
		sign("||", 70), text("é", 72), sign(",", at(", a<")), word("a", at("a<")), sign("<=", at("<=")), word("b", at("b)")), sign(")", at("b)")+1), sign(";", at(";")),
	)
}
