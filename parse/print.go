package parse

import (
	"strings"

	"potsherd/api"
	"potsherd/lex"
)

// Show writes the expression l; and, or come with two parts each.
func Show(l []api.Step) (string, api.Errno) {
	if !Right(l) {
		return "", api.ErrSyntax
	}
	return writeExpr(l), api.OK
}

// Print writes the query q.
func Print(q api.Query) (string, api.Errno) {
	if why := Check(q); why != api.OK {
		return "", why
	}
	parts := []string{"from", q.Table}
	if q.Join != "" {
		parts = append(parts, brackets("join", q.Join, q.Left, q.Right))
	}
	if len(q.Where) > 0 {
		parts = append(parts, brackets("where", writeExpr(q.Where)))
	}
	if len(q.Group) > 0 {
		parts = append(parts, brackets("group", q.Group...))
	}
	if len(q.Items) > 0 {
		parts = append(parts, brackets("get", writeItems(q.Items)...))
	}
	return brackets(parts[0], parts[1:]...), api.OK
}

func brackets(head string, parts ...string) string {
	var text strings.Builder
	text.WriteString("(" + head)
	for _, p := range parts {
		text.WriteString(" " + p)
	}
	text.WriteString(")")
	return text.String()
}

func writeItems(l []api.Item) []string {
	var texts []string
	for _, item := range l {
		texts = append(texts, writeItem(item))
	}
	return texts
}

func writeItem(item api.Item) string {
	switch item.Agg {
	case api.AggNone:
		return writeExpr(item.Expr)
	case api.AggCount:
		return brackets(aggregateText(item.Agg))
	}
	return brackets(aggregateText(item.Agg), writeExpr(item.Expr))
}

func aggregateText(k api.AggKind) string {
	for _, a := range aggregates {
		if a.kind == k {
			return a.text
		}
	}
	return ""
}

// writeExpr writes an expression that is right: the texts wait on a stack, as the values would.
func writeExpr(l []api.Step) string {
	var stack []string
	for _, s := range l {
		takes, _ := Takes(s)
		rest := len(stack) - takes
		text := writeStep(s, stack[rest:])
		stack = append(stack[:rest], text)
	}
	return stack[0]
}

// writeStep writes s with the texts of what it takes.
func writeStep(s api.Step, parts []string) string {
	switch s.Kind {
	case api.StepInt:
		return token(api.Token{Kind: api.TokenInt, N: s.N})
	case api.StepText:
		return token(api.Token{Kind: api.TokenText, Text: s.Text})
	case api.StepCol:
		// It is no matter here that two long names are no atom together.
		return strings.Clone(s.Text)
	}
	if len(parts) == 0 {
		return stepText(s.Kind)
	}
	return brackets(stepText(s.Kind), parts...)
}

func stepText(k api.StepKind) string {
	for _, w := range words {
		if w.kind == k {
			return w.text
		}
	}
	return ""
}

// token writes one that stands in a right step, which lex never refuses.
func token(t api.Token) string {
	text, _ := lex.Show(t)
	return text
}
