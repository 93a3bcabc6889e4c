package algebra

import (
	"potsherd/api"
	"potsherd/value"
)

func boolean(b bool) api.Value { return api.Value{Kind: api.KindBool, B: b} }

func whole(n int64) api.Value { return api.Value{Kind: api.KindInt, N: n} }

func isNull(v api.Value) bool { return v == api.Value{} }

// comesTo goes through the steps of an expression that has a kind with their values on a stack.
func comesTo(l []api.Step, row api.Row) api.Value {
	var stack []api.Value
	for _, s := range l {
		rest := len(stack) - takes(s.Kind)
		stack = append(stack[:rest], stepOf(s, stack[rest:], row))
	}
	return stack[0]
}

// takes is how many values a right step takes.
func takes(k api.StepKind) int {
	switch {
	case k <= api.StepCol:
		return 0
	case k <= api.StepLength:
		return 1
	}
	return 2
}

// stepOf is what the step makes of what it takes.
func stepOf(s api.Step, taken []api.Value, row api.Row) api.Value {
	switch len(taken) {
	case 0:
		return ofNone(s, row)
	case 1:
		return ofOne(s.Kind, taken[0])
	}
	return ofTwo(s.Kind, taken[0], taken[1])
}

func ofNone(s api.Step, row api.Row) api.Value {
	switch s.Kind {
	case api.StepTrue, api.StepFalse:
		return boolean(s.Kind == api.StepTrue)
	case api.StepInt:
		return whole(s.N)
	case api.StepText:
		return api.Value{Kind: api.KindText, S: s.Text}
	case api.StepCol:
		return row[s.N]
	}
	return api.Value{}
}

func ofOne(k api.StepKind, v api.Value) api.Value {
	switch {
	case k == api.StepIsNull:
		return boolean(isNull(v))
	case isNull(v):
		return api.Value{}
	case k == api.StepNeg:
		return number(value.Sub(0, v.N))
	case k == api.StepNot:
		return boolean(!v.B)
	}
	return whole(int64(value.Runes(v.S)))
}

func ofTwo(k api.StepKind, a, b api.Value) api.Value {
	switch {
	case k == api.StepAnd:
		return unless(boolean(false), a, b)
	case k == api.StepOr:
		return unless(boolean(true), a, b)
	case isNull(a) || isNull(b):
		return api.Value{}
	case k == api.StepAdd:
		return number(value.Add(a.N, b.N))
	case k == api.StepSub:
		return number(value.Sub(a.N, b.N))
	case k == api.StepMul:
		return number(value.Mul(a.N, b.N))
	}
	return boolean(isSo(k, value.Compare(a, b)))
}

// unless is one bool, if a or b is it, whatever the other one is; else null, if one of them is; else the other bool.
func unless(one, a, b api.Value) api.Value {
	switch {
	case a == one || b == one:
		return one
	case isNull(a) || isNull(b):
		return api.Value{}
	}
	return boolean(!one.B)
}

// number is null, where n is beyond an int64.
func number(n int64, why api.Errno) api.Value {
	if why != api.OK {
		return api.Value{}
	}
	return whole(n)
}

// isSo tells whether one of the six holds of two values that compare so.
func isSo(k api.StepKind, c int) bool {
	switch k {
	case api.StepEqual:
		return c == 0
	case api.StepUnlike:
		return c != 0
	case api.StepLess:
		return c < 0
	case api.StepMost:
		return c <= 0
	case api.StepMore:
		return c > 0
	}
	return c >= 0
}
