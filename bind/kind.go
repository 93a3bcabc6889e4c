package bind

import (
	"cmp"
	"slices"

	"potsherd/api"
	"potsherd/parse"
)

// Kind is what the bound expression l comes to, of those columns, or why it comes to nothing.
func Kind(l []api.Step, cols []api.Col) (api.Kind, api.Errno) {
	// What is longer is not right: it need not be gone through.
	if len(l) > api.MaxExpr || !parse.Right(withNames(l)) {
		return 0, api.ErrSyntax
	}
	if len(cols) > 2*api.MaxCols {
		return 0, api.ErrMany
	}
	if slices.ContainsFunc(l, func(s api.Step) bool { return isOutside(s, len(cols)) }) {
		return 0, api.ErrRange
	}
	return comesTo(l, cols)
}

func withNames(l []api.Step) []api.Step {
	named := make([]api.Step, len(l))
	for i, s := range l {
		named[i] = withName(s)
	}
	return named
}

// withName is a step as package parse knows it: what is bound has a place, and no name.
func withName(s api.Step) api.Step {
	if s.Kind == api.StepCol && s.Text == "" {
		return api.Step{Kind: api.StepCol, Text: "bound"}
	}
	return s
}

// isOutside tells whether the step is a column that is not bound to one of so many.
func isOutside(s api.Step, columns int) bool {
	return s.Kind == api.StepCol && (s.Text != "" || s.N < 0 || s.N >= int64(columns))
}

// comesTo goes through the steps of a right expression with their kinds on a stack.
func comesTo(l []api.Step, cols []api.Col) (api.Kind, api.Errno) {
	var stack []api.Kind
	for _, s := range l {
		takes, _ := parse.Takes(withName(s))
		rest := len(stack) - takes
		if !fits(s.Kind, stack[rest:]) {
			return 0, api.ErrType
		}
		// Without room behind, what was taken is not written over.
		stack = append(stack[:rest:rest], kindOfStep(s, cols))
	}
	return stack[0], api.OK
}

// fits tells whether a step may take values of those kinds.
func fits(k api.StepKind, taken []api.Kind) bool {
	var must api.Kind
	switch k {
	case api.StepNeg, api.StepAdd, api.StepSub, api.StepMul:
		must = api.KindInt
	case api.StepLength:
		must = api.KindText
	case api.StepNot, api.StepAnd, api.StepOr:
		must = api.KindBool
	case api.StepEqual, api.StepUnlike, api.StepLess, api.StepMost, api.StepMore, api.StepLeast:
		// The first of the two that is not null tells what the other one must be.
		must = cmp.Or(taken...)
	default:
		return true
	}
	return !slices.ContainsFunc(taken, func(t api.Kind) bool { return t != must && t != api.KindNull })
}

// kindOfStep is the kind of what the step makes.
func kindOfStep(s api.Step, cols []api.Col) api.Kind {
	switch s.Kind {
	case api.StepNull:
		return api.KindNull
	case api.StepText:
		return api.KindText
	case api.StepCol:
		return cols[s.N].Kind
	case api.StepInt, api.StepNeg, api.StepLength, api.StepAdd, api.StepSub, api.StepMul:
		return api.KindInt
	}
	return api.KindBool
}
