package parse

import (
	"strings"
	"unicode/utf8"

	"potsherd/api"
)

// maxName is how many bytes a name has at most.
const maxName = 64

func isName(s string) bool {
	if s == "" || len(s) > maxName || !utf8.ValidString(s) || isConstant(s) {
		return false
	}
	for i, r := range s {
		if !isLetter(r) && (i == 0 || !isDigit(r)) {
			return false
		}
	}
	return true
}

func isLetter(r rune) bool {
	return r >= 'A' && r <= 'Z' || r >= 'a' && r <= 'z' || r == '_' || r > 127
}

func isDigit(r rune) bool { return r >= '0' && r <= '9' }

// isColumn tells whether s is a column's text: each of its two names may be as long as a name is, though an atom of both may not.
func isColumn(s string) bool {
	first, second, two := strings.Cut(s, ".")
	return isName(first) && (!two || isName(second))
}

// Takes is how many values s takes; false, if it is not right.
func Takes(s api.Step) (int, bool) {
	if !isRightStep(s) {
		return 0, false
	}
	switch {
	case s.Kind <= api.StepCol:
		return 0, true
	case s.Kind <= api.StepLength:
		return 1, true
	}
	return 2, true
}

func isRightStep(s api.Step) bool {
	switch {
	case s.Kind == api.StepNone || s.Kind >= api.StepCount:
		return false
	case s.Kind == api.StepInt:
		return s.Text == ""
	case s.Kind == api.StepText:
		return s.N == 0 && len(s.Text) <= api.MaxText && utf8.ValidString(s.Text)
	case s.Kind == api.StepCol:
		return s.N == 0 && isColumn(s.Text)
	}
	return s.N == 0 && s.Text == ""
}

// Right tells whether l is an expression: each step finds what it takes, and one value is left.
func Right(l []api.Step) bool {
	if len(l) > api.MaxExpr {
		return false
	}
	values := 0
	for _, s := range l {
		takes, ok := Takes(s)
		if !ok || takes > values {
			return false
		}
		values += 1 - takes
	}
	return values == 1
}

// Check tells ErrSyntax, if q is not right.
func Check(q api.Query) api.Errno {
	if !isName(q.Table) || !isRightJoin(q) || !isRightWhere(q) || !areRightItems(q) || !isRightGroup(q) {
		return api.ErrSyntax
	}
	return api.OK
}

func isRightJoin(q api.Query) bool {
	if q.Join == "" {
		return q.Left == "" && q.Right == ""
	}
	return isName(q.Join) && q.Join != q.Table && isColumn(q.Left) && isColumn(q.Right)
}

func isRightWhere(q api.Query) bool {
	return len(q.Where) == 0 || Right(q.Where)
}

func areRightItems(q api.Query) bool {
	if len(q.Items) > api.MaxItems {
		return false
	}
	for _, item := range q.Items {
		if !isRightItem(item) {
			return false
		}
	}
	return true
}

func isRightItem(item api.Item) bool {
	if item.Agg == api.AggCount {
		return len(item.Expr) == 0
	}
	return item.Agg < api.AggEnd && Right(item.Expr)
}

func isRightGroup(q api.Query) bool {
	if len(q.Group) > api.MaxItems {
		return false
	}
	for _, c := range q.Group {
		if !isColumn(c) {
			return false
		}
	}
	return len(q.Group) == 0 || len(q.Items) > 0
}
