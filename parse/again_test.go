package parse_test

import (
	"regexp"
	"slices"
	"strings"
	"unicode/utf8"

	"potsherd/api"
	"potsherd/lex"
)

// machine reads a query token by token, from a stack of what is to come: the document's words, said in another way.
type machine struct {
	stack []state
	query api.Query
	expr  *[]api.Step // the one that is being read
	open  int
}

// state takes a token, or tells why it can't.
type state func(m *machine, t api.Token) api.Errno

var (
	nameShape     = regexp.MustCompile(`^[A-Za-z_\x{80}-\x{10ffff}][A-Za-z_\x{80}-\x{10ffff}0-9]*$`)
	constantShape = regexp.MustCompile(`^(null|true|false)$`)
	unary         = []string{"neg", "not", "null?", "length"}
	binary        = []string{"+", "-", "*", "=", "<>", "<", "<=", ">", ">=", "and", "or"}
	folds         = []string{"none", "count", "sum", "min", "max"}
)

func nameAgain(s string) bool {
	return len(s) <= 64 && nameShape.MatchString(s) && !constantShape.MatchString(s)
}

func columnAgain(s string) bool {
	l := strings.Split(s, ".")
	return len(l) <= 2 && !slices.ContainsFunc(l, func(s string) bool { return !nameAgain(s) })
}

// leafAgain is the step that a token is by itself.
func leafAgain(t api.Token) (api.Step, bool) {
	switch {
	case t.Kind == api.TokenInt:
		return whole(t.N), true
	case t.Kind == api.TokenText:
		return text(t.Text), true
	case t.Kind == api.TokenAtom && constantShape.MatchString(t.Text):
		return op(map[string]api.StepKind{"null": api.StepNull, "true": api.StepTrue, "false": api.StepFalse}[t.Text]), true
	case t.Kind == api.TokenAtom && columnAgain(t.Text):
		return col(t.Text), true
	}
	return api.Step{}, false
}

// push lays states on the stack, so that the first of them takes the next token.
func (m *machine) push(l ...state) {
	slices.Reverse(l)
	m.stack = append(m.stack, l...)
}

func (m *machine) put(l ...api.Step) api.Errno {
	*m.expr = append(*m.expr, l...)
	if len(*m.expr) > api.MaxExpr {
		return api.ErrMany
	}
	return api.OK
}

func (m *machine) take(t api.Token) api.Errno {
	if t.Kind == api.TokenOpen {
		if m.open == api.MaxNest {
			return api.ErrDepth
		}
		m.open++
	}
	if t.Kind == api.TokenClose {
		m.open--
	}
	if len(m.stack) == 0 {
		return api.ErrSyntax
	}
	top := m.stack[len(m.stack)-1]
	m.stack = m.stack[:len(m.stack)-1]
	return top(m, t)
}

func when(ok bool) api.Errno {
	if ok {
		return api.OK
	}
	return api.ErrSyntax
}

func bracket(k api.TokenKind) state {
	return func(m *machine, t api.Token) api.Errno { return when(t.Kind == k) }
}

// fill wants an atom of a shape, and keeps it where place tells.
func fill(shape func(string) bool, place func(q *api.Query) *string) state {
	return func(m *machine, t api.Token) api.Errno {
		*place(&m.query) = t.Text
		return when(t.Kind == api.TokenAtom && shape(t.Text))
	}
}

func clausesAgain(from int) state {
	return func(m *machine, t api.Token) api.Errno {
		if t.Kind == api.TokenOpen && from < 4 {
			m.push(clauseAgain(from))
			return api.OK
		}
		return when(t.Kind == api.TokenClose)
	}
}

func clauseAgain(from int) state {
	return func(m *machine, t api.Token) api.Errno {
		i := slices.Index([]string{"join", "where", "group", "get"}, t.Text)
		if t.Kind != api.TokenAtom || i < from {
			return api.ErrSyntax
		}
		m.push(clausesAgain(i + 1))
		switch i {
		case 0:
			m.push(fill(nameAgain, func(q *api.Query) *string { return &q.Join }), fill(columnAgain, func(q *api.Query) *string { return &q.Left }), fill(columnAgain, func(q *api.Query) *string { return &q.Right }), bracket(api.TokenClose))
		case 1:
			m.expr = &m.query.Where
			m.push(exprAgain, bracket(api.TokenClose))
		case 2:
			m.push(groupAgain)
		case 3:
			m.push(itemsAgain)
		}
		return api.OK
	}
}

func groupAgain(m *machine, t api.Token) api.Errno {
	if t.Kind == api.TokenClose {
		return when(len(m.query.Group) > 0)
	}
	if t.Kind != api.TokenAtom || !columnAgain(t.Text) {
		return api.ErrSyntax
	}
	if len(m.query.Group) == api.MaxItems {
		return api.ErrMany
	}
	m.query.Group = append(m.query.Group, t.Text)
	m.push(groupAgain)
	return api.OK
}

func itemsAgain(m *machine, t api.Token) api.Errno {
	if t.Kind == api.TokenClose {
		return when(len(m.query.Items) > 0)
	}
	if _, ok := leafAgain(t); !ok && t.Kind != api.TokenOpen {
		return api.ErrSyntax
	}
	if len(m.query.Items) == api.MaxItems {
		return api.ErrMany
	}
	m.query.Items = append(m.query.Items, api.Item{})
	m.expr = &m.query.Items[len(m.query.Items)-1].Expr
	m.push(itemsAgain)
	if t.Kind == api.TokenOpen {
		m.push(itemHeadAgain)
		return api.OK
	}
	return exprAgain(m, t)
}

func itemHeadAgain(m *machine, t api.Token) api.Errno {
	i := slices.Index(folds, t.Text)
	if t.Kind != api.TokenAtom || i <= 0 {
		return headAgain(m, t)
	}
	m.query.Items[len(m.query.Items)-1].Agg = api.AggKind(i)
	m.push(bracket(api.TokenClose))
	if i > 1 {
		m.push(exprAgain)
	}
	return api.OK
}

func exprAgain(m *machine, t api.Token) api.Errno {
	if t.Kind == api.TokenOpen {
		m.push(headAgain)
		return api.OK
	}
	s, ok := leafAgain(t)
	if !ok {
		return api.ErrSyntax
	}
	return m.put(s)
}

func headAgain(m *machine, t api.Token) api.Errno {
	if t.Kind != api.TokenAtom {
		return api.ErrSyntax
	}
	if i := slices.Index(unary, t.Text); i >= 0 {
		m.push(exprAgain, partsAgain(op(api.StepNeg+api.StepKind(i)), 1, 1))
		return api.OK
	}
	i := slices.Index(binary, t.Text)
	if i < 0 {
		return api.ErrSyntax
	}
	most := 2
	if i >= 9 {
		most = 1 << 20
	}
	m.push(exprAgain, exprAgain, partsAgain(op(api.StepAdd+api.StepKind(i)), 2, most))
	return api.OK
}

// partsAgain is behind n parts of an operator that takes at most so many.
func partsAgain(s api.Step, n, most int) state {
	return func(m *machine, t api.Token) api.Errno {
		if t.Kind == api.TokenClose {
			return m.put(slices.Repeat(steps(s), max(n-1, 1))...)
		}
		if n == most {
			return api.ErrSyntax
		}
		m.push(partsAgain(s, n+1, most))
		return exprAgain(m, t)
	}
}

func parseAgain(s string) (api.Query, api.Errno, int) {
	l, why, at := lex.Lex(s)
	if why != api.OK {
		return api.Query{}, why, at
	}
	m := machine{}
	m.push(bracket(api.TokenOpen), func(m *machine, t api.Token) api.Errno { return when(t.Kind == api.TokenAtom && t.Text == "from") }, fill(nameAgain, func(q *api.Query) *string { return &q.Table }), clausesAgain(0))
	for _, t := range l {
		if why := m.take(t); why != api.OK {
			return api.Query{}, why, t.At
		}
	}
	if len(m.stack) > 0 {
		return api.Query{}, api.ErrSyntax, utf8.RuneCountInString(s)
	}
	if m.query.Join == m.query.Table || len(m.query.Group) > 0 && len(m.query.Items) == 0 {
		return api.Query{}, api.ErrSyntax, 0
	}
	return m.query, api.OK, 0
}

// showAgain writes the expression that ends l, from its end on, and tells what is ahead of it, and how deep its brackets are.
func showAgain(l []api.Step) (string, []api.Step, int) {
	s, rest := l[len(l)-1], l[:len(l)-1]
	switch s.Kind {
	case api.StepNull, api.StepTrue, api.StepFalse:
		return []string{"null", "true", "false"}[s.Kind-api.StepNull], rest, 0
	case api.StepInt:
		t, _ := lex.Show(api.Token{Kind: api.TokenInt, N: s.N})
		return t, rest, 0
	case api.StepText:
		t, _ := lex.Show(api.Token{Kind: api.TokenText, Text: s.Text})
		return t, rest, 0
	case api.StepCol:
		return s.Text, rest, 0
	}
	if s.Kind < api.StepAdd {
		inner, rest, deep := showAgain(rest)
		return "(" + unary[s.Kind-api.StepNeg] + " " + inner + ")", rest, deep + 1
	}
	second, rest, a := showAgain(rest)
	first, rest, b := showAgain(rest)
	return "(" + binary[s.Kind-api.StepAdd] + " " + first + " " + second + ")", rest, max(a, b) + 1
}

// printAgain writes a right query, and tells how deep its brackets are.
func printAgain(q api.Query) (string, int) {
	s, deep := "(from "+q.Table, 1
	if q.Join != "" {
		s, deep = s+" (join "+q.Join+" "+q.Left+" "+q.Right+")", 2
	}
	if len(q.Where) > 0 {
		t, _, n := showAgain(q.Where)
		s, deep = s+" (where "+t+")", max(deep, n+2)
	}
	if len(q.Group) > 0 {
		s += " (group " + strings.Join(q.Group, " ") + ")"
	}
	for i, item := range q.Items {
		s += []string{" (get", ""}[min(i, 1)] + " "
		if item.Agg != api.AggNone {
			s += "(" + folds[item.Agg]
			deep = max(deep, 3)
		}
		if item.Agg != api.AggCount {
			t, _, n := showAgain(item.Expr)
			s += []string{"", " "}[min(int(item.Agg), 1)] + t
			deep = max(deep, n+2+min(int(item.Agg), 1))
		}
		if item.Agg != api.AggNone {
			s += ")"
		}
	}
	if len(q.Items) > 0 {
		s += ")"
	}
	return s + ")", deep
}
