package parse

import "potsherd/api"

// word is how a step is written that has no field but its kind.
type word struct {
	text string
	kind api.StepKind
}

var words = [...]word{
	{"null", api.StepNull}, {"true", api.StepTrue}, {"false", api.StepFalse},
	{"neg", api.StepNeg}, {"not", api.StepNot}, {"null?", api.StepIsNull}, {"length", api.StepLength},
	{"+", api.StepAdd}, {"-", api.StepSub}, {"*", api.StepMul},
	{"=", api.StepEqual}, {"<>", api.StepUnlike}, {"<", api.StepLess},
	{"<=", api.StepMost}, {">", api.StepMore}, {">=", api.StepLeast},
	{"and", api.StepAnd}, {"or", api.StepOr},
}

// aggregate is how an item's is written.
type aggregate struct {
	text string
	kind api.AggKind
}

var aggregates = [...]aggregate{
	{"count", api.AggCount}, {"sum", api.AggSum}, {"min", api.AggMin}, {"max", api.AggMax},
}

// stepOf is the kind of the step that is written so, StepNone if there is none.
func stepOf(text string) api.StepKind {
	for _, w := range words {
		if w.text == text {
			return w.kind
		}
	}
	return api.StepNone
}

// aggregateOf is the aggregate that is written so, AggNone if there is none.
func aggregateOf(text string) api.AggKind {
	for _, a := range aggregates {
		if a.text == text {
			return a.kind
		}
	}
	return api.AggNone
}

// isConstant tells whether the atom is a value, which no name may be.
func isConstant(text string) bool {
	switch stepOf(text) {
	case api.StepNull, api.StepTrue, api.StepFalse:
		return true
	}
	return false
}

func isOperator(t api.Token) bool {
	return t.Kind == api.TokenAtom && stepOf(t.Text) != api.StepNone && !isConstant(t.Text)
}

func isAggregate(t api.Token) bool {
	return t.Kind == api.TokenAtom && aggregateOf(t.Text) != api.AggNone
}

// isLeaf tells whether the token is an expression by itself.
func isLeaf(t api.Token) bool { return leaf(t).Kind != api.StepNone }

// leaf is the step that the token is, of no kind if it is none.
func leaf(t api.Token) api.Step {
	switch {
	case t.Kind == api.TokenInt:
		return api.Step{Kind: api.StepInt, N: t.N}
	case t.Kind == api.TokenText:
		return api.Step{Kind: api.StepText, Text: t.Text}
	case isColumnToken(t):
		return api.Step{Kind: api.StepCol, Text: t.Text}
	case t.Kind == api.TokenAtom && isConstant(t.Text):
		return api.Step{Kind: stepOf(t.Text)}
	}
	return api.Step{}
}

func (r *reader) item() api.Item {
	if !r.comes(isOpen) {
		return api.Item{Expr: r.expr()}
	}
	r.take(isOpen)
	head := r.take(isOperator, isAggregate)
	if isOperator(head) {
		return api.Item{Expr: r.operation(nil, head)}
	}
	item := api.Item{Agg: aggregateOf(head.Text)}
	if item.Agg != api.AggCount {
		item.Expr = r.expr()
	}
	r.take(isClose)
	return item
}

func (r *reader) expr() []api.Step {
	return r.part(nil)
}

// part reads an expression, whose steps come behind those of l.
func (r *reader) part(l []api.Step) []api.Step {
	token := r.take(isLeaf, isOpen)
	if isOpen(token) {
		return r.operation(l, r.take(isOperator))
	}
	return put(l, leaf(token), token.At)
}

// operation reads an operator's parts, and its closing bracket, with which its steps come.
func (r *reader) operation(l []api.Step, head api.Token) []api.Step {
	step := api.Step{Kind: stepOf(head.Text)}
	parts, _ := Takes(step)
	for range parts {
		l = r.part(l)
	}
	for takesMore(step.Kind) && !r.comes(isClose) {
		l = r.part(l)
		parts++
	}
	end := r.take(isClose)
	for range max(1, parts-1) {
		l = put(l, step, end.At)
	}
	return l
}

func takesMore(k api.StepKind) bool { return k == api.StepAnd || k == api.StepOr }

// put is l with s behind it; at is the place of the token that brings s.
func put(l []api.Step, s api.Step, at int) []api.Step {
	if len(l) == api.MaxExpr {
		panic(fault{api.ErrMany, at})
	}
	return append(l, s)
}
