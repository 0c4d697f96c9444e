package lex_test

import (
	"math/big"
	"math/rand"
	"slices"
	"strconv"
	"strings"
	"testing"

	"palimpsest/api"
	"palimpsest/lex"
)

const (
	digits  = "0123456789"
	letters = "ABCDEFGHIJKLMNOPQRSTUVWXYZabcdefghijklmnopqrstuvwxyz_"
)

// run tells how many bytes at the beginning of s are of set.
func run(s, set string) int {
	return len(s) - len(strings.TrimLeft(s, set))
}

// wordly reads a text a second time, by the words of 18.1: at each place it asks what stands there.
func wordly(s string) ([]api.Token, api.Errno, int) {
	if len(s) > 4096 {
		return nil, api.ErrLong, 0
	}
	var l []api.Token
	at := 0
	for at < len(s) {
		rest := s[at:]
		if n := run(rest, " \t\n\r"); n > 0 {
			at += n
			continue
		}
		if strings.HasPrefix(rest, "--") {
			line, _, _ := strings.Cut(rest, "\n")
			at += len(line)
			continue
		}
		x, n := wordlyToken(rest)
		if n == 0 {
			return nil, api.ErrSyntax, at
		}
		x.At = at
		l = append(l, x)
		at += n
	}
	return append(l, end(len(s))), api.OK, 0
}

// wordlyToken tells the token that s begins with, and of how many bytes it is: 0, if none is right.
func wordlyToken(s string) (api.Token, int) {
	if n := run(s, digits); n > 0 {
		v, _ := new(big.Int).SetString(s[:n], 10)
		if !v.IsInt64() || n > 19 || run(s[n:], letters) > 0 {
			return api.Token{}, 0
		}
		return num(int(v.Int64()), 0), n
	}
	if n := run(s, letters+digits); n > 0 {
		if n > 32 {
			return api.Token{}, 0
		}
		small := []byte(s[:n])
		for i, c := range small {
			if c >= 'A' && c <= 'Z' {
				small[i] = c - 'A' + 'a'
			}
		}
		return word(string(small), 0), n
	}
	for _, x := range signs() { // those of two bytes stand ahead there
		if strings.HasPrefix(s, x) {
			return sign(x, 0), len(x)
		}
	}
	if s[0] != '\'' {
		return api.Token{}, 0
	}
	for at := 1; at < len(s); { // the first quotes of an odd number end it: each other one of them goes with the one ahead of it
		n := run(s[at:], "'")
		if n%2 == 1 {
			return text(strings.Join(strings.Split(s[1:at+n-1], "''"), "'"), 0), at + n
		}
		at += max(n, 1)
	}
	return api.Token{}, 0
}

// asWordly wants a text to be read as the model reads it.
func asWordly(t *testing.T, s string) {
	t.Helper()
	l, e, at := lex.Words(s)
	want, wantE, wantAt := wordly(s)
	if e != wantE || at != wantAt || !slices.Equal(l, want) {
		t.Fatalf("Words(%q) = %s, %d, %d; want %s, %d, %d", s, brief(l), e, at, brief(want), wantE, wantAt)
	}
}

// every calls f with each text of up to so many of some parts.
func every(s string, parts []string, left int, f func(s string)) {
	f(s)
	for _, x := range parts {
		if left > 0 {
			every(s+x, parts, left-1, f)
		}
	}
}

// TestEveryShortText: all texts of up to two bytes, and all of a few more of bytes with a meaning.
func TestEveryShortText(t *testing.T) { // 18.1, 18.4, W12
	var all []string
	for c := range 256 {
		all = append(all, string([]byte{byte(c)}))
	}
	every("", all, 2, func(s string) { asWordly(t, s) })
	every("", strings.Split("a Z _ 0 9 ' - < > = | ( ! \x00 \xFF", " "), 4, func(s string) { asWordly(t, s) })
	every("", []string{"a", "1", "'", "-", "\n", " ", "|", "<", "="}, 5, func(s string) { asWordly(t, s) })
	every("", []string{"'", "-", "\n", "x"}, 8, func(s string) { asWordly(t, s) })
	every("", []string{"<", ">", "=", "|", "-", ";"}, 6, func(s string) { asWordly(t, s) })
}

// TestEveryByteWithin: each byte in each place of some texts, in the place of what stands there and ahead of it; each of them cut short at each place, and without each byte.
func TestEveryByteWithin(t *testing.T) { // 18.1, 18.4, W12
	for _, s := range []string{
		"SELECT a<>'it''s' -- x\n, 9223372036854775807 ||b",
		"'a''''b'''--'\n'x'(_y1)<=-00>=.5;",
		strings.Repeat("w", 32) + " " + strings.Repeat("0", 18) + "7 || - -- ",
	} {
		for i := range len(s) + 1 {
			asWordly(t, s[:i])
			asWordly(t, s[i:])
			for c := range 256 {
				b := string([]byte{byte(c)})
				asWordly(t, s[:i]+b+s[i:])
				asWordly(t, s[:i]+b)
				if i < len(s) {
					asWordly(t, s[:i]+b+s[i+1:])
				}
			}
		}
	}
}

// TestWhateverBytes: texts of whatever bytes are read, or told as wrong; long ones too.
func TestWhateverBytes(t *testing.T) { // 18.4, W12
	g := rand.New(rand.NewSource(1))
	meant := "aZ_09'''---<>=| \t\r\n\n(),.*+/%;!\"\x00\x80\xFF"
	for n := range 40000 {
		b := make([]byte, g.Intn(60))
		if n%400 == 0 {
			b = make([]byte, api.MaxText-2+g.Intn(5))
		}
		for i := range b {
			b[i] = byte(g.Intn(256))
			if g.Intn(20) > 0 {
				b[i] = meant[g.Intn(len(meant))]
			}
		}
		asWordly(t, string(b))
		lex.Reserved(string(b))
		lex.Name(string(b))
	}
	for _, n := range []int{0, 1, api.MaxText - 1, api.MaxText, api.MaxText + 1, 1 << 20} {
		for _, x := range []string{"'", "-", "a", "9", "|", "<", " ", "\n", "\x00", "\xFF"} {
			asWordly(t, strings.Repeat(x, n))
			lex.Reserved(strings.Repeat(x, n))
			lex.Name(strings.Repeat(x, n))
		}
	}
}

// spelt tells a text that is read as this token.
func spelt(x api.Token) string {
	switch x.Kind {
	case api.KInt:
		return strconv.Itoa(x.Int)
	case api.KText:
		return "'" + strings.ReplaceAll(x.Text, "'", "''") + "'"
	}
	return x.Text
}

// written tells the tokens' text, each ahead of one of what goes between; and what it must be read as.
func written(l []api.Token, between func() string) (string, []api.Token) {
	s := between()
	var want []api.Token
	for _, x := range l {
		x.At = len(s)
		want = append(want, x)
		s += spelt(x) + between()
	}
	return s, want
}

// random makes tokens of all kinds.
func random(g *rand.Rand, n int) []api.Token {
	var l []api.Token
	for range n {
		some := func(set string, n int) string {
			b := make([]byte, n)
			for i := range b {
				b[i] = set[g.Intn(len(set))]
			}
			return string(b)
		}
		switch g.Intn(4) {
		case 0:
			l = append(l, word(some("az_", 1)+some("abyz_019", g.Intn(32)), 0))
		case 1:
			l = append(l, num(int(g.Uint64()>>(1+g.Intn(63))), 0))
		case 2:
			l = append(l, text(some("''- \n\x00\xFFaA1|!", g.Intn(9)), 0))
		case 3:
			l = append(l, sign(signs()[g.Intn(len(signs()))], 0))
		}
	}
	return l
}

// TestThereAndBack: tokens written one behind the other are read as the same tokens, whatever goes between; what is read can be written and read once more.
func TestThereAndBack(t *testing.T) { // 18.3, W7
	g := rand.New(rand.NewSource(2))
	gaps := []string{" ", "\n", "  ", "\t\r\n ", " --\n", " -- it's ! 1x\n", "\n----\n", " --x\n--y\n "}
	for n := range 6000 {
		l := random(g, n%24)
		for _, between := range []func() string{
			func() string { return " " },
			func() string { return "\n" },
			func() string { return " --|'\n" },
			func() string { return gaps[g.Intn(len(gaps))] },
		} {
			s, want := written(l, between)
			if len(s) > api.MaxText {
				t.Fatalf("%d bytes", len(s))
			}
			reads(t, s, want...)
			reads(t, s+"--", want...)
			asWordly(t, s)
		}
		if t.Failed() {
			t.FailNow()
		}
	}
}

// TestReadAndWritten: what was read of whatever text, written with blanks between, is read as the same tokens.
func TestReadAndWritten(t *testing.T) { // 18.3, W7
	read := 0
	try := func(s string) {
		l, e, _ := lex.Words(s)
		if e != api.OK {
			return
		}
		read++
		s, want := written(l[:len(l)-1], func() string { return " " })
		reads(t, s, want...)
		if t.Failed() {
			t.FailNow()
		}
	}
	every("", []string{"A", "b", "07", "'", "-", "\n", " ", "||", "<", "=", "."}, 5, try)
	if read < 50000 {
		t.Fatalf("%d texts were right", read)
	}
}
