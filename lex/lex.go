// Package lex has queries' texts as tokens: see ../../shared/DOC.md and doc/02-lex.md.
//
// lex.go reads brackets, atoms and numbers, text.go quoted texts; show.go writes tokens.
package lex

import (
	"strconv"
	"strings"
	"unicode/utf8"

	"potsherd/api"
)

// maxAtom is how many bytes an atom has at most.
const maxAtom = 64

// letter is a rune of a text; a bad one is a byte that begins none, which Go reads as 65533.
type letter struct {
	code rune
	bad  bool
}

// Lex reads the tokens of s, or tells the first that is none, and its place.
func Lex(s string) ([]api.Token, api.Errno, int) {
	if len(s) > api.MaxQuery {
		return nil, api.ErrLong, 0
	}
	letters := lettersOf(s)
	var tokens []api.Token
	at := skipBlanks(letters, 0)
	for at < len(letters) {
		token, end, why := readToken(letters, at)
		if why != api.OK {
			return nil, why, at
		}
		tokens = append(tokens, token)
		at = skipBlanks(letters, end)
	}
	return tokens, api.OK, 0
}

// lettersOf makes the runes' places those of a list.
func lettersOf(s string) []letter {
	var letters []letter
	for i, r := range s {
		bad := r == utf8.RuneError && !strings.HasPrefix(s[i:], string(utf8.RuneError))
		letters = append(letters, letter{code: r, bad: bad})
	}
	return letters
}

// skipBlanks is the place of the first letter, from at on, that is in no blank.
func skipBlanks(letters []letter, at int) int {
	for at < len(letters) {
		switch letters[at].code {
		case ' ', '\t', '\n', '\r':
			at++
		case ';':
			at = skipRemark(letters, at)
		default:
			return at
		}
	}
	return at
}

func skipRemark(letters []letter, at int) int {
	for at < len(letters) && letters[at].code != '\n' {
		at++
	}
	return at
}

// readToken reads the token that begins at at, and tells the place behind it.
func readToken(letters []letter, at int) (api.Token, int, api.Errno) {
	switch letters[at].code {
	case '(':
		return api.Token{Kind: api.TokenOpen, At: at}, at + 1, api.OK
	case ')':
		return api.Token{Kind: api.TokenClose, At: at}, at + 1, api.OK
	case '"':
		return readText(letters, at)
	}
	return readWord(letters, at)
}

// readWord reads an atom or a number.
func readWord(letters []letter, at int) (api.Token, int, api.Errno) {
	end := at
	for end < len(letters) && !endsWord(letters[end].code) {
		end++
	}
	var word strings.Builder
	for _, l := range letters[at:end] {
		if l.bad {
			return api.Token{}, 0, api.ErrUtf
		}
		word.WriteRune(l.code)
	}
	token, why := wordToken(word.String())
	if why != api.OK {
		return api.Token{}, 0, why
	}
	token.At = at
	return token, end, api.OK
}

func endsWord(r rune) bool {
	switch r {
	case ' ', '\t', '\n', '\r', ';', '(', ')', '"':
		return true
	}
	return false
}

func wordToken(word string) (api.Token, api.Errno) {
	if beginsNumber(word) {
		return numberToken(word)
	}
	if len(word) > maxAtom {
		return api.Token{}, api.ErrSyntax
	}
	return api.Token{Kind: api.TokenAtom, Text: word}, api.OK
}

// beginsNumber tells whether a word can be a number only, and no atom.
func beginsNumber(word string) bool {
	digits := strings.TrimPrefix(word, "-")
	return digits != "" && digits[0] >= '0' && digits[0] <= '9'
}

// numberToken takes a number as it is written alone: so it has no needless noughts, and is not -0.
func numberToken(word string) (api.Token, api.Errno) {
	n, err := strconv.ParseInt(word, 10, 64)
	if err != nil || strconv.FormatInt(n, 10) != word {
		return api.Token{}, api.ErrSyntax
	}
	return api.Token{Kind: api.TokenInt, N: n}, api.OK
}
