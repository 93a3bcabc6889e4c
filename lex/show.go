package lex

import (
	"strconv"
	"strings"

	"potsherd/api"
)

// Show writes t, or tells ErrSyntax, if Lex answers no such token; At is no matter.
func Show(t api.Token) (string, api.Errno) {
	// No token's text is longer: what is too long need not be written first.
	if len(t.Text) > api.MaxText {
		return "", api.ErrSyntax
	}
	s := write(t)
	if !readsAs(s, t) {
		return "", api.ErrSyntax
	}
	return s, api.OK
}

// readsAs tells whether s is read as t alone. What is written is right just if it is: so there is one rule for both ways.
func readsAs(s string, t api.Token) bool {
	tokens, why, _ := Lex(s)
	if why != api.OK || len(tokens) != 1 {
		return false
	}
	t.At = tokens[0].At
	return tokens[0] == t
}

// write is the text of t, whether t is right or not.
func write(t api.Token) string {
	switch t.Kind {
	case api.TokenOpen:
		return "("
	case api.TokenClose:
		return ")"
	case api.TokenAtom:
		return strings.Clone(t.Text)
	case api.TokenInt:
		return strconv.FormatInt(t.N, 10)
	case api.TokenText:
		return quote(t.Text)
	}
	return ""
}

func quote(s string) string {
	var text strings.Builder
	text.WriteByte('"')
	for _, r := range s {
		switch {
		case r == '"' || r == '\\':
			text.WriteByte('\\')
			text.WriteRune(r)
		case r < 32 || r == 127:
			text.WriteString(`\u{` + strconv.FormatInt(int64(r), 16) + "}")
		default:
			text.WriteRune(r)
		}
	}
	text.WriteByte('"')
	return text.String()
}
