package lex_test

import (
	"fmt"
	"math"
	"slices"
	"strings"
	"testing"

	"potsherd/api"
	"potsherd/lex"
)

func open(at int) api.Token              { return api.Token{Kind: api.TokenOpen, At: at} }
func shut(at int) api.Token              { return api.Token{Kind: api.TokenClose, At: at} }
func atom(s string, at int) api.Token    { return api.Token{Kind: api.TokenAtom, Text: s, At: at} }
func number(n int64, at int) api.Token   { return api.Token{Kind: api.TokenInt, N: n, At: at} }
func textual(s string, at int) api.Token { return api.Token{Kind: api.TokenText, Text: s, At: at} }

func wantTokens(t *testing.T, s string, want ...api.Token) {
	t.Helper()
	l, why, at := lex.Lex(s)
	if why != api.OK || at != 0 || !slices.Equal(l, want) {
		t.Errorf("Lex(%.80q) = %v, error %d at %d; not %v", s, l, why, at, want)
	}
}

func wantError(t *testing.T, s string, want api.Errno, place int) {
	t.Helper()
	l, why, at := lex.Lex(s)
	if why != want || at != place || len(l) != 0 {
		t.Errorf("Lex(%.80q) = %v, error %d at %d; not error %d at %d", s, l, why, at, want, place)
	}
}

func TestTokens(t *testing.T) { // 2.1
	wantTokens(t, `(é "a\u{e9}" -7) ;x`, open(0), atom("é", 1), textual("aé", 3), number(-7, 13), shut(15))
	wantTokens(t, "")
	wantTokens(t, " \t\r\n ;")
	wantTokens(t, "()((", open(0), shut(1), open(2), open(3))
	wantTokens(t, "a", atom("a", 0))
	wantTokens(t, `""`, textual("", 0))
	wantTokens(t, `"""a"`, textual("", 0), textual("a", 2))
	wantTokens(t, `a"b"c`, atom("a", 0), textual("b", 1), atom("c", 4))
	wantTokens(t, `7"b"8(9)10;11`, number(7, 0), textual("b", 1), number(8, 4), open(5), number(9, 6), shut(7), number(10, 8))
	wantTokens(t, "a\tb\nc\rd e", atom("a", 0), atom("b", 2), atom("c", 4), atom("d", 6), atom("e", 8))
}

func TestBlanks(t *testing.T) { // 2.1, 2.5
	wantTokens(t, "a;b\nc", atom("a", 0), atom("c", 4))
	wantTokens(t, "a;b\rc", atom("a", 0)) // a CR ends no remark
	wantTokens(t, ";\xff\xfe\" \\ (é\n7", number(7, 10))
	wantTokens(t, ";\xff")
	wantTokens(t, ";;;\n;\na", atom("a", 6))
	wantTokens(t, "a\u00a0b", atom("a\u00a0b", 0)) // no blank, for all that it is one elsewhere
	wantTokens(t, "a\vb\fc\x00\x7f", atom("a\vb\fc\x00\x7f", 0))
	wantTokens(t, "\u2028", atom("\u2028", 0))
}

func TestTexts(t *testing.T) { // 2.1
	wantTokens(t, `"\"\\\n\t"`, textual("\"\\\n\t", 0))
	wantTokens(t, `"\u{0}\u{41}\u{000041}\u{e9}\u{10ffff}\u{d7ff}\u{e000}\u{fffd}"`, textual("\x00AAé\U0010FFFF\uD7FF\uE000\uFFFD", 0))
	wantTokens(t, `"\u{22}\u{5c}n"`, textual(`"\n`, 0))
	wantTokens(t, "\"(;\n\r\t ) \x00\uFFFD日\"", textual("(;\n\r\t ) \x00\uFFFD日", 0))
	wantTokens(t, `"\\" "\\\""`, textual(`\`, 0), textual(`\"`, 5))
	for _, s := range []string{
		`"`, `"a`, `"\"`, `"\\\"`, `"a\`, `"\u`, `"\u{`, `"\u{4`, `"\u{41}`, // no end
		`"\x"`, `"\N"`, `"\r"`, `"\0"`, `"\'"`, `"\ "`, "\"\\\n\"", `"\é"`, `"\a"`, `"\U{41}"`, // no escape
		`"\u"`, `"\u41"`, `"\u{"`, `"\u{}"`, `"\u{}}"`, `"\u{4"`, `"\u{4 1}"`, `"\u{g}"`, `"\u{E9}"`, `"\u{-1}"`, `"\u{+1}"`, `"\u{٣}"`,
		`"\u{0000041}"`, `"\u{1234567}"`, `"\u{110000}"`, `"\u{ffffff}"`, `"\u{d800}"`, `"\u{dfff}"`, `"\u{dabc}"`, `"\u(41)"`, `"\u{41)"`,
	} {
		wantError(t, s, api.ErrSyntax, 0)
		wantError(t, "(é "+s, api.ErrSyntax, 3)
	}
}

func TestErrorsOfTexts(t *testing.T) { // 2.1, P3: ErrSyntax, then ErrUtf, then ErrLong
	fits, long := strings.Repeat("a", api.MaxText), strings.Repeat("a", api.MaxText+1)
	wantTokens(t, `"`+fits+`"`, textual(fits, 0))
	wantTokens(t, `"`+strings.Repeat(`\u{61}`, api.MaxText)+`"`, textual(fits, 0)) // the Text's bytes, not those that were read
	wantTokens(t, `"`+strings.Repeat("é", api.MaxText/2)+`"`, textual(strings.Repeat("é", api.MaxText/2), 0))
	wantError(t, `"`+long+`"`, api.ErrLong, 0)
	wantError(t, `"`+strings.Repeat(`\u{61}`, api.MaxText+1)+`"`, api.ErrLong, 0)
	wantError(t, `"`+strings.Repeat(`\u{e9}`, api.MaxText/2)+`a"`, api.ErrLong, 0)
	wantError(t, `é "`+long+`" 01`, api.ErrLong, 2)

	for _, bad := range []string{"\xff", "\xc3", "\x80", "\xed\xa0\x80", "\xc0\x80", "\xf4\x90\x80\x80", "\uFFFD\xff"} {
		wantError(t, `"`+bad+`"`, api.ErrUtf, 0)
		wantError(t, `x "`+bad+`"`, api.ErrUtf, 2)
	}
	wantError(t, "\"\xff"+long+`"`, api.ErrUtf, 0)
	wantError(t, `"`+long+"\xff\"", api.ErrUtf, 0)
	wantError(t, "\"\xff", api.ErrSyntax, 0)
	wantError(t, "\"\xff\\x\"", api.ErrSyntax, 0)
	wantError(t, "\"\\x\xff\"", api.ErrSyntax, 0)
	wantError(t, "\"\\\xff\"", api.ErrSyntax, 0)
	wantError(t, "\"\\u{\xff}\"", api.ErrSyntax, 0)
	wantError(t, `"`+long, api.ErrSyntax, 0)
	wantError(t, `"`+long+`\x"`, api.ErrSyntax, 0)
}

func TestNumbers(t *testing.T) { // 2.1
	for _, n := range []int64{0, 1, 9, 10, -1, -10, 100, math.MaxInt32 + 1, math.MaxInt64, math.MaxInt64 - 1, math.MinInt64, math.MinInt64 + 1} {
		wantTokens(t, fmt.Sprint(n), number(n, 0))
		wantTokens(t, fmt.Sprintf("(%d)", n), open(0), number(n, 1), shut(1+len(fmt.Sprint(n))))
	}
	for _, s := range []string{
		"00", "01", "-0", "-00", "-01", "9223372036854775808", "-9223372036854775809", "18446744073709551616", "-" + strings.Repeat("9", 99),
		"5a", "-5a", "5-", "5.0", "1e3", "0x1", "1_0", "7é", "-7é", "7\\", strings.Repeat("0", 65),
	} {
		wantError(t, s, api.ErrSyntax, 0)
		wantError(t, "日本 "+s, api.ErrSyntax, 3)
	}
	wantTokens(t, "٣ +7 .5", atom("٣", 0), atom("+7", 2), atom(".5", 5)) // other digits are none
}

func TestAtoms(t *testing.T) { // 2.1
	for _, s := range []string{"a", "-", "--", "--7", "-a", "-a7", "<=", "t.k", "null?", "é", "日本", "\\", "'", "{}", "[", "\uFFFD", "_7", "A", "\x01", "-é7"} {
		wantTokens(t, s, atom(s, 0))
	}
	for _, s := range []string{strings.Repeat("a", 64), strings.Repeat("é", 32), "-" + strings.Repeat("日", 21)} {
		wantTokens(t, s, atom(s, 0))
		wantError(t, s+"b", api.ErrSyntax, 0)
	}
	wantError(t, strings.Repeat("é", 33), api.ErrSyntax, 0) // bytes, not runes
}

func TestErrorsOfWords(t *testing.T) { // 2.1, P3: ErrUtf, then ErrSyntax
	for _, s := range []string{"\xff", "a\xff", "\xffa", "é\xc3", "7\xff", "-7\xff", "-\xff7", "01\xff", strings.Repeat("a", 65) + "\xff", "\x80", "\uFFFD\xff"} {
		wantError(t, s, api.ErrUtf, 0)
		wantError(t, "é("+s+")", api.ErrUtf, 2)
	}
}

func TestFirstErrorIsTold(t *testing.T) { // 2.1, P3
	wantError(t, "a 01 \xff", api.ErrSyntax, 2)
	wantError(t, "a \xff 01", api.ErrUtf, 2)
	wantError(t, "\"\xff\" \"", api.ErrUtf, 0)
	wantError(t, ";\xff\xff\n日 \"\xff\"", api.ErrUtf, 6)
}

func TestLongQueries(t *testing.T) { // 2.1, P3
	full := strings.Repeat("(", api.MaxQuery)
	l, why, at := lex.Lex(full)
	if len(l) != api.MaxQuery || why != api.OK || at != 0 || l[api.MaxQuery-1] != open(api.MaxQuery-1) {
		t.Error("Lex of MaxQuery bytes:", len(l), why, at)
	}
	wantError(t, full+"(", api.ErrLong, 0)
	wantError(t, strings.Repeat(" ", api.MaxQuery+1), api.ErrLong, 0)
	wantError(t, "\xff 01 "+full, api.ErrLong, 0)
	wantError(t, strings.Repeat("é", api.MaxQuery/2)+" ", api.ErrLong, 0) // bytes, not runes
	wantError(t, strings.Repeat("日本 ", 1<<20), api.ErrLong, 0)
	wantTokens(t, ";"+strings.Repeat("\xff", api.MaxQuery-3)+"\na", atom("a", api.MaxQuery-1))
}
