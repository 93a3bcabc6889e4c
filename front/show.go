package front

import (
	"strconv"
	"strings"

	"potsherd/api"
	"potsherd/lex"
)

// The words of tables' texts.
const (
	tableWord = "table"
	boolWord  = "bool"
	intWord   = "int"
	textWord  = "text"
	nullWord  = "null"
	trueWord  = "true"
	falseWord = "false"
)

// unknown stands for what has no text.
const unknown = "?"

func brackets(parts ...string) string { return "(" + strings.Join(parts, " ") + ")" }

func showValue(v api.Value) string {
	switch v.Kind {
	case api.KindNull:
		return nullWord
	case api.KindBool:
		return showBool(v.B)
	case api.KindInt:
		return strconv.FormatInt(v.N, 10)
	case api.KindText:
		return showText(v.S)
	}
	return unknown
}

func showBool(b bool) string {
	if b {
		return trueWord
	}
	return falseWord
}

func showText(s string) string {
	text, why := lex.Show(api.Token{Kind: api.TokenText, Text: s})
	if why != api.OK {
		return unknown
	}
	return text
}

// showTable is the text of a right table.
func showTable(t api.Table) string {
	var cols []string
	for _, c := range t.Cols {
		cols = append(cols, brackets(showText(c.Name), showKind(c.Kind)))
	}
	parts := []string{tableWord, showText(t.Name), brackets(cols...)}
	for _, r := range t.Rows {
		parts = append(parts, ShowRow(r))
	}
	return brackets(parts...)
}

func showKind(k api.Kind) string {
	switch k {
	case api.KindBool:
		return boolWord
	case api.KindInt:
		return intWord
	case api.KindText:
		return textWord
	}
	return unknown
}
