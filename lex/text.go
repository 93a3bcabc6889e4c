package lex

import (
	"strings"

	"potsherd/api"
)

const (
	maxHexDigits = 6
	maxRune      = 0x10ffff
	firstHalf    = 0xd800 // the numbers from here to lastHalf are halves of UTF-16's pairs, no runes
	lastHalf     = 0xdfff
)

// readText reads the quoted text that begins at at, and tells the place behind it.
func readText(letters []letter, at int) (api.Token, int, api.Errno) {
	var text strings.Builder
	bad := false
	next := at + 1
	for next < len(letters) && letters[next].code != '"' {
		l := letters[next]
		next++
		if l.code == '\\' {
			r, behind, ok := readEscape(letters, next)
			if !ok {
				return api.Token{}, 0, api.ErrSyntax
			}
			l.code, next = r, behind
		}
		bad = bad || l.bad
		text.WriteRune(l.code)
	}
	if next >= len(letters) {
		return api.Token{}, 0, api.ErrSyntax
	}
	if bad {
		return api.Token{}, 0, api.ErrUtf
	}
	if text.Len() > api.MaxText {
		return api.Token{}, 0, api.ErrLong
	}
	return api.Token{Kind: api.TokenText, Text: text.String(), At: at}, next + 1, api.OK
}

// escapes is what a rune behind a \ stands for.
func escapes() map[rune]rune {
	return map[rune]rune{'"': '"', '\\': '\\', 'n': '\n', 't': '\t'}
}

// readEscape reads what is behind a \, from at on: the rune it stands for, and the place behind it.
func readEscape(letters []letter, at int) (rune, int, bool) {
	if at >= len(letters) {
		return 0, 0, false
	}
	if letters[at].code == 'u' {
		return readHexEscape(letters, at+1)
	}
	r, ok := escapes()[letters[at].code]
	if !ok {
		return 0, 0, false
	}
	return r, at + 1, true
}

// readHexEscape reads what is behind \u: a number of hexadecimal in braces.
func readHexEscape(letters []letter, at int) (rune, int, bool) {
	if at >= len(letters) || letters[at].code != '{' {
		return 0, 0, false
	}
	first := at + 1
	next := first
	number := rune(0)
	for next < len(letters) && next-first < maxHexDigits {
		digit, ok := hexDigit(letters[next].code)
		if !ok {
			break
		}
		number = number*16 + digit
		next++
	}
	if next == first || next >= len(letters) || letters[next].code != '}' || !isRune(number) {
		return 0, 0, false
	}
	return number, next + 1, true
}

func hexDigit(r rune) (rune, bool) {
	switch {
	case r >= '0' && r <= '9':
		return r - '0', true
	case r >= 'a' && r <= 'f':
		return r - 'a' + 10, true
	}
	return 0, false
}

func isRune(n rune) bool {
	return n <= maxRune && (n < firstHalf || n > lastHalf)
}
