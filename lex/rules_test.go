package lex_test

import (
	"regexp"
	"runtime"
	"slices"
	"strconv"
	"strings"
	"testing"
	"unicode/utf8"
	"unsafe"

	"potsherd/api"
	"potsherd/lex"
)

// eachText hands on texts of at most n of the pieces, all of them, and some that are longer.
func eachText(pieces []string, n int, f func(string)) {
	level := []string{""}
	for range n {
		var next []string
		for _, s := range level {
			f(s)
			for _, p := range pieces {
				next = append(next, s+p)
			}
		}
		level = next
	}
	state := uint64(1)
	for range 40000 {
		s := ""
		for range 5 + state>>60 {
			state = state*6364136223846793005 + 1442695040888963407
			s += pieces[state>>33%uint64(len(pieces))]
		}
		f(s)
	}
}

func somePieces() []string {
	return []string{"(", ")", "\"", "\\", " ", "\n", ";", "-", "0", "7", "a", "é", "\xff", "\uFFFD", "u{", "}", "\\u{e9}", "n", "\x7f"}
}

// none is a rune that stands for bad ones below, and is in none of the pieces.
const none = '\uE000'

var (
	blankShape  = regexp.MustCompile(`^([ \t\n\r]|;[^\n]*)+`)
	textShape   = regexp.MustCompile(`^"([^"\\]|\\["\\nt]|\\u\{[0-9a-f]{1,6}\})*"`)
	escapeShape = regexp.MustCompile(`\\u\{[0-9a-f]+\}|\\.`)
	wordShape   = regexp.MustCompile(`^[^ \t\n\r;()"]+`)
	numberShape = regexp.MustCompile(`^(0|-?[1-9][0-9]*)$`)
	digitAhead  = regexp.MustCompile(`^-?[0-9]`)
)

// readAgain reads s by the shapes of its tokens: the document's words, said in another way.
func readAgain(s string) ([]api.Token, api.Errno, int) {
	var marked []rune
	for len(s) > 0 {
		r, size := utf8.DecodeRuneInString(s)
		if r == utf8.RuneError && size == 1 {
			r = none
		}
		marked, s = append(marked, r), s[size:]
	}
	rest, at := string(marked), 0
	var out []api.Token
	take := func(part string) {
		rest, at = rest[len(part):], at+utf8.RuneCountInString(part)
	}
	for {
		take(blankShape.FindString(rest))
		if rest == "" {
			return out, api.OK, 0
		}
		t, part, why := tokenAgain(rest)
		if why != api.OK {
			return nil, why, at
		}
		t.At = at
		out = append(out, t)
		take(part)
	}
}

func tokenAgain(rest string) (api.Token, string, api.Errno) {
	switch rest[0] {
	case '(':
		return api.Token{Kind: api.TokenOpen}, "(", api.OK
	case ')':
		return api.Token{Kind: api.TokenClose}, ")", api.OK
	case '"':
		part := textShape.FindString(rest)
		if part == "" {
			return api.Token{}, "", api.ErrSyntax
		}
		known := true
		s := escapeShape.ReplaceAllStringFunc(part[1:len(part)-1], func(e string) string {
			if e[1] != 'u' {
				return map[string]string{`\"`: `"`, `\\`: `\`, `\n`: "\n", `\t`: "\t"}[e]
			}
			n, _ := strconv.ParseInt(e[3:len(e)-1], 16, 64)
			known = known && utf8.ValidRune(rune(n))
			return string(rune(n))
		})
		if !known {
			return api.Token{}, "", api.ErrSyntax
		}
		if strings.ContainsRune(part, none) {
			return api.Token{}, "", api.ErrUtf
		}
		return api.Token{Kind: api.TokenText, Text: s}, part, api.OK
	}
	part := wordShape.FindString(rest)
	if strings.ContainsRune(part, none) {
		return api.Token{}, "", api.ErrUtf
	}
	if numberShape.MatchString(part) {
		n, _ := strconv.ParseInt(part, 10, 64)
		return api.Token{Kind: api.TokenInt, N: n}, part, api.OK
	}
	if digitAhead.MatchString(part) || len(part) > 64 {
		return api.Token{}, "", api.ErrSyntax
	}
	return api.Token{Kind: api.TokenAtom, Text: part}, part, api.OK
}

func TestAllTexts(t *testing.T) { // 2.1, P1, P2, P3
	eachText(somePieces(), 4, func(s string) {
		l, why, at := lex.Lex(s)
		if m, how, place := readAgain(s); !slices.Equal(l, m) || why != how || at != place {
			t.Fatalf("Lex(%q) = %v, error %d at %d; not %v, %d, %d", s, l, why, at, m, how, place)
		}
		if again, how, place := lex.Lex(strings.Clone(s)); !slices.Equal(l, again) || why != how || at != place {
			t.Fatalf("Lex(%q) is another one the next time", s)
		}
		if why != api.OK && l != nil || why == api.OK && at != 0 {
			t.Fatalf("Lex(%q) = %v, error %d at %d", s, l, why, at)
		}
	})
}

// shown are tokens' texts with a blank between; false, if one has none.
func shown(l []api.Token, blank string) (string, bool) {
	var parts []string
	for _, t := range l {
		s, why := lex.Show(t)
		if why != api.OK {
			return "", false
		}
		parts = append(parts, s)
	}
	return strings.Join(parts, blank), true
}

func sameButPlaces(a, b []api.Token) bool {
	return slices.EqualFunc(a, b, func(x, y api.Token) bool {
		x.At, y.At = 0, 0
		return x == y
	})
}

func TestThereAndBack(t *testing.T) { // 2.4
	eachText(somePieces(), 4, func(s string) {
		l, why, _ := lex.Lex(s)
		if why != api.OK {
			return
		}
		for _, blank := range []string{" ", "\t", "\r\n", ";\xff\"\n"} {
			back, ok := shown(l, blank)
			if !ok {
				t.Fatalf("Show of Lex(%q) fails", s)
			}
			if m, why, _ := lex.Lex(back); why != api.OK || !sameButPlaces(l, m) {
				t.Fatalf("Lex(%q) = %v, shown %q, read as %v, error %d", s, l, back, m, why)
			}
		}
	})
}

func TestShownIsRead(t *testing.T) { // 2.2, 2.4: of tokens made by hand Show takes just those that are read again
	eachText(somePieces(), 4, func(s string) {
		for _, k := range []api.Token{atom(s, 0), textual(s, 0)} {
			back, why := lex.Show(k)
			if why != api.OK {
				back = s
				if k.Kind == api.TokenText {
					back = `"` + strings.NewReplacer(`\`, `\\`, `"`, `\"`).Replace(s) + `"`
				}
			}
			l, how, _ := lex.Lex(back)
			if (how == api.OK && len(l) == 1 && l[0] == k) != (why == api.OK) {
				t.Fatalf("Show(%v): error %d, but %q is read as %v, error %d", k, why, back, l, how)
			}
		}
	})
}

func TestEachRuneThereAndBack(t *testing.T) { // 2.2, 2.4
	for r := rune(0); r <= utf8.MaxRune; r++ {
		if !utf8.ValidRune(r) {
			continue
		}
		k := textual(string(r), 0)
		want := `"` + string(r) + `"`
		if r < 32 || r == 127 {
			want = `"\u{` + strconv.FormatInt(int64(r), 16) + `}"`
		} else if r == '"' || r == '\\' {
			want = `"\` + string(r) + `"`
		}
		s, why := lex.Show(k)
		if s != want || why != api.OK {
			t.Fatalf("Show of the rune %x: %q, error %d", r, s, why)
		}
		wantTokens(t, s, k)
		wantTokens(t, `"\u{`+strconv.FormatInt(int64(r), 16)+`}"`, k)
	}
}

func TestPlaces(t *testing.T) { // 2.5
	eachText(somePieces(), 4, func(s string) {
		l, why, at := lex.Lex(s)
		for i := 1; i < len(l); i++ {
			if l[i-1].At >= l[i].At {
				t.Fatalf("Lex(%q): places do not rise: %v", s, l)
			}
		}
		for _, blank := range []string{" ", "\n", "\t \r", ";é\xff\" )\n"} {
			ahead := utf8.RuneCountInString(blank)
			m, how, place := lex.Lex(blank + s)
			if how != why || how != api.OK && place != at+ahead || !sameButPlaces(l, m) {
				t.Fatalf("Lex(%q) with %q ahead: %v, error %d at %d", s, blank, m, how, place)
			}
			for i := range m {
				if m[i].At != l[i].At+ahead {
					t.Fatalf("Lex(%q) with %q ahead: %v", s, blank, m)
				}
			}
		}
		if why != api.OK {
			return
		}
		for _, behind := range []string{" ", "\n\t\r", " ;", ";\xff\xfe\"(é", ";x\n"} {
			if m, how, _ := lex.Lex(s + "\n" + behind); how != api.OK || !slices.Equal(l, m) {
				t.Fatalf("Lex(%q) with %q behind: %v, error %d", s, behind, m, how)
			}
		}
	})
}

// within tells whether a's bytes lie in b's memory.
func within(a, b string) bool {
	if a == "" || b == "" {
		return false
	}
	x, y := uintptr(unsafe.Pointer(unsafe.StringData(a))), uintptr(unsafe.Pointer(unsafe.StringData(b)))
	return x >= y && x < y+uintptr(len(b))
}

func TestNewMemory(t *testing.T) { // 2.3
	s := strings.Clone(`(abc "def" 7)`)
	l, _, _ := lex.Lex(s)
	m, _, _ := lex.Lex(s)
	l[1] = api.Token{}
	_ = append(l[:2], api.Token{})
	if m[1].Text != "abc" || m[2].Text != "def" {
		t.Error("answers share memory:", m)
	}
	for _, k := range m {
		if within(k.Text, s) {
			t.Errorf("%q lies in the text that was handed in", k.Text)
		}
		if back, _ := lex.Show(k); within(back, k.Text) {
			t.Errorf("%q lies in the token that was handed in", back)
		}
	}
}

func TestAnyTokens(t *testing.T) { // P1, P2, P3, P4
	before := runtime.NumGoroutine()
	for kind := range 256 {
		for _, s := range []string{"", "a", "7", "\xff", "(", strings.Repeat("\x00", 1<<16)} {
			for _, n := range []int64{0, 1, -1 << 63, 1<<63 - 1} {
				for _, at := range []int{0, -1, 1 << 40} {
					k := api.Token{Kind: api.TokenKind(kind), Text: s, N: n, At: at}
					a, why := lex.Show(k)
					if b, how := lex.Show(k); a != b || why != how || (why == api.OK) != (a != "") || why != api.OK && why != api.ErrSyntax {
						t.Fatalf("Show(%v) = %q, error %d; then %q, error %d", k, a, why, b, how)
					}
				}
			}
		}
	}
	lex.Lex(strings.Repeat("a \"b\" ", 300))
	if n := runtime.NumGoroutine(); n > before { // an earlier test's own may have ended meanwhile
		t.Errorf("%d goroutines, and %d before", n, before)
	}
}
