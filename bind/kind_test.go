package bind_test

import (
	"slices"
	"testing"

	"potsherd/api"
	"potsherd/bind"
)

func at(n int64) api.Step            { return api.Step{Kind: api.StepCol, N: n} }
func op(k api.StepKind) api.Step     { return api.Step{Kind: k} }
func whole(n int64) api.Step         { return api.Step{Kind: api.StepInt, N: n} }
func text(s string) api.Step         { return api.Step{Kind: api.StepText, Text: s} }
func col(s string) api.Step          { return api.Step{Kind: api.StepCol, Text: s} }
func steps(l ...api.Step) []api.Step { return l }

// oneOfEach are columns of all kinds, by the kind's number, null among them.
func oneOfEach() []api.Col {
	return []api.Col{column("n", api.KindNull), column("b", api.KindBool), column("i", api.KindInt), column("t", api.KindText)}
}

func wantKind(t *testing.T, l []api.Step, cols []api.Col, k api.Kind, why api.Errno) {
	t.Helper()
	if got, how := bind.Kind(l, cols); got != k || how != why {
		t.Errorf("Kind(%v) = %d, error %d; not %d, error %d", l, got, how, k, why)
	}
}

func TestKindOfLeaves(t *testing.T) { // 4.1
	wantKind(t, steps(op(api.StepNull)), nil, api.KindNull, api.OK)
	wantKind(t, steps(op(api.StepTrue)), nil, api.KindBool, api.OK)
	wantKind(t, steps(op(api.StepFalse)), nil, api.KindBool, api.OK)
	wantKind(t, steps(whole(-3)), nil, api.KindInt, api.OK)
	wantKind(t, steps(text("é")), nil, api.KindText, api.OK)
	for i, c := range oneOfEach() {
		wantKind(t, steps(at(int64(i))), oneOfEach(), c.Kind, api.OK)
	}
	// Columns are taken as they are.
	wantKind(t, steps(at(0)), []api.Col{{Kind: 9}}, 9, api.OK)
	wantKind(t, steps(at(0), at(0), op(api.StepEqual)), []api.Col{{Kind: 9}}, api.KindBool, api.OK)
	wantKind(t, steps(at(0), op(api.StepNeg)), []api.Col{{Kind: 9}}, 0, api.ErrType)
}

func TestKindOfOne(t *testing.T) { // 4.1
	for k, must := range map[api.StepKind]api.Kind{api.StepNeg: api.KindInt, api.StepNot: api.KindBool, api.StepLength: api.KindText} {
		makes := must
		if k == api.StepLength {
			makes = api.KindInt
		}
		for i := range api.KindCount {
			if i == must || i == api.KindNull {
				wantKind(t, steps(at(int64(i)), op(k)), oneOfEach(), makes, api.OK)
			} else {
				wantKind(t, steps(at(int64(i)), op(k)), oneOfEach(), 0, api.ErrType)
			}
		}
	}
	for i := range api.KindCount {
		wantKind(t, steps(at(int64(i)), op(api.StepIsNull)), oneOfEach(), api.KindBool, api.OK)
	}
}

func TestKindOfTwo(t *testing.T) { // 4.1
	for k := api.StepAdd; k < api.StepCount; k++ {
		for i := range api.KindCount {
			for j := range api.KindCount {
				l := steps(at(int64(i)), at(int64(j)), op(k))
				must, makes := api.KindBool, api.KindBool
				switch {
				case k <= api.StepMul:
					must, makes = api.KindInt, api.KindInt
				case k <= api.StepLeast:
					must = max(i, j) // null is below all others
				}
				if (i == must || i == api.KindNull) && (j == must || j == api.KindNull) {
					wantKind(t, l, oneOfEach(), makes, api.OK)
				} else {
					wantKind(t, l, oneOfEach(), 0, api.ErrType)
				}
			}
		}
	}
}

func TestKindOfMany(t *testing.T) { // 4.1
	cols := oneOfEach()
	wantKind(t, steps(at(3), op(api.StepLength), whole(1), op(api.StepAdd), at(2), op(api.StepLess), at(1), op(api.StepAnd)), cols, api.KindBool, api.OK)
	wantKind(t, steps(at(2), at(3), at(3), op(api.StepEqual), op(api.StepIsNull), op(api.StepNot), op(api.StepUnlike)), cols, 0, api.ErrType)
	wantKind(t, steps(at(3), op(api.StepNeg), op(api.StepIsNull)), cols, 0, api.ErrType)
	wantKind(t, steps(op(api.StepNull), op(api.StepNeg), op(api.StepNull), op(api.StepNot), op(api.StepEqual)), cols, 0, api.ErrType)
	wantKind(t, append(steps(op(api.StepNull)), slices.Repeat(steps(op(api.StepNeg)), api.MaxExpr-1)...), nil, api.KindInt, api.OK)
	wantKind(t, append(slices.Repeat(steps(at(2)), 32), slices.Repeat(steps(op(api.StepMul)), 31)...), cols, api.KindInt, api.OK)
}

func TestKindErrors(t *testing.T) { // 4.1: in their order
	cols := oneOfEach()
	full := slices.Repeat(cols[2:3], 2*api.MaxCols)
	over := slices.Repeat(cols[2:3], 2*api.MaxCols+1)
	wantKind(t, nil, cols, 0, api.ErrSyntax)
	wantKind(t, steps(), nil, 0, api.ErrSyntax)
	wantKind(t, steps(at(0), at(0)), cols, 0, api.ErrSyntax)
	wantKind(t, steps(op(api.StepNeg)), cols, 0, api.ErrSyntax)
	wantKind(t, steps(op(api.StepNone)), cols, 0, api.ErrSyntax)
	wantKind(t, steps(text("\xff")), cols, 0, api.ErrSyntax)
	wantKind(t, append(steps(at(0)), slices.Repeat(steps(op(api.StepNeg)), api.MaxExpr)...), cols, 0, api.ErrSyntax)
	wantKind(t, slices.Repeat(steps(at(0)), 1<<16), cols, 0, api.ErrSyntax)
	wantKind(t, steps(api.Step{Kind: api.StepCol, Text: "a b"}), cols, 0, api.ErrSyntax)
	wantKind(t, steps(api.Step{Kind: api.StepCol, Text: "a", N: 1}), cols, 0, api.ErrSyntax)
	wantKind(t, steps(at(99), at(99)), over, 0, api.ErrSyntax)
	wantKind(t, steps(whole(1)), over, 0, api.ErrMany)
	wantKind(t, steps(at(99)), over, 0, api.ErrMany)
	wantKind(t, steps(col("n")), over, 0, api.ErrMany)
	wantKind(t, steps(at(1), op(api.StepNeg)), over, 0, api.ErrMany)
	wantKind(t, steps(at(2*api.MaxCols-1)), full, api.KindInt, api.OK)
	wantKind(t, steps(at(2*api.MaxCols)), full, 0, api.ErrRange)
	wantKind(t, steps(at(-1)), cols, 0, api.ErrRange)
	wantKind(t, steps(at(-1<<63)), cols, 0, api.ErrRange)
	wantKind(t, steps(at(1<<63-1)), cols, 0, api.ErrRange)
	wantKind(t, steps(at(1<<32)), cols, 0, api.ErrRange)
	wantKind(t, steps(at(4)), cols, 0, api.ErrRange)
	wantKind(t, steps(at(0)), nil, 0, api.ErrRange)
	wantKind(t, steps(col("n")), cols, 0, api.ErrRange)
	wantKind(t, steps(col("t.n")), cols, 0, api.ErrRange)
	wantKind(t, steps(at(1), op(api.StepNeg), at(4), op(api.StepAdd)), cols, 0, api.ErrRange)
	wantKind(t, steps(at(1), op(api.StepNeg), at(2), op(api.StepAdd)), cols, 0, api.ErrType)
	wantKind(t, steps(whole(99)), nil, api.KindInt, api.OK)
}
