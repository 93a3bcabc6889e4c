package lex_test

import (
	"math"
	"strings"
	"testing"

	"potsherd/api"
	"potsherd/lex"
)

func TestShow(t *testing.T) { // 2.2
	for i, x := range []struct {
		t    api.Token
		want string
	}{
		{open(0), "("},
		{shut(0), ")"},
		{atom("a", 0), "a"},
		{atom("-", 0), "-"},
		{atom("--7é", 0), "--7é"},
		{atom("\x01\uFFFD\\n", 0), "\x01\uFFFD\\n"},
		{atom(strings.Repeat("é", 32), 0), strings.Repeat("é", 32)},
		{number(0, 0), "0"},
		{number(-7, 0), "-7"},
		{number(math.MinInt64, 0), "-9223372036854775808"},
		{number(math.MaxInt64, 0), "9223372036854775807"},
		{textual("", 0), `""`},
		{textual("\"\\", 0), `"\"\\"`},
		{textual("\x00\t\n\r\x1f \x7e\x7f\u0080", 0), `"\u{0}\u{9}\u{a}\u{d}\u{1f} ~\u{7f}` + "\u0080\""},
		{textual("é日\uFFFD\U0010FFFF;()", 0), "\"é日\uFFFD\U0010FFFF;()\""},
		{textual(strings.Repeat("\x1f", api.MaxText), 0), `"` + strings.Repeat(`\u{1f}`, api.MaxText) + `"`},
		{open(7), "("}, // At is no matter
		{atom("a", -1), "a"},
		{number(7, math.MaxInt), "7"},
		{textual("a", math.MinInt), `"a"`},
	} {
		if s, why := lex.Show(x.t); s != x.want || why != api.OK {
			t.Errorf("Show, %d: %q, error %d; not %q", i, s, why, x.want)
		}
	}
}

func TestShowOfNone(t *testing.T) { // 2.2, P2
	for i, x := range []api.Token{
		{}, {Kind: api.TokenCount}, {Kind: 255}, {Kind: api.TokenNone, Text: "a"}, {Kind: api.TokenCount, Text: "a"},
		{Kind: api.TokenOpen, Text: "("}, {Kind: api.TokenOpen, N: 1}, {Kind: api.TokenClose, Text: ")"}, {Kind: api.TokenClose, N: -1},
		{Kind: api.TokenInt, Text: "7", N: 7}, {Kind: api.TokenAtom, Text: "a", N: 7}, {Kind: api.TokenText, Text: "a", N: 7},
		atom("", 0), atom("7", 0), atom("7a", 0), atom("-7", 0), atom("-7a", 0), atom("01", 0),
		atom("a b", 0), atom(" a", 0), atom("a ", 0), atom("a\t", 0), atom("a\n", 0), atom("\ra", 0), atom("a;b", 0), atom("a;", 0), atom(";", 0),
		atom("(", 0), atom(")", 0), atom("a(", 0), atom(")a", 0), atom(`"a"`, 0), atom(`a"`, 0), atom(`"`, 0),
		atom("\xff", 0), atom("a\xc3", 0), atom(strings.Repeat("a", 65), 0), atom(strings.Repeat("é", 32)+"a", 0), atom(strings.Repeat("a", 1<<20), 0),
		textual("\xff", 0), textual("a\xc3", 0), textual("\xed\xa0\x80", 0),
		textual(strings.Repeat("a", api.MaxText+1), 0), textual(strings.Repeat("é", api.MaxText/2)+"a", 0), textual(strings.Repeat("\xff", 1<<20), 0),
	} {
		if s, why := lex.Show(x); s != "" || why != api.ErrSyntax {
			t.Errorf("Show, %d, %.40q: %q, error %d", i, x.Text, s, why)
		}
	}
}
