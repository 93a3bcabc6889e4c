package algebra_test

import (
	"math"
	"slices"
	"strings"
	"testing"

	"potsherd/algebra"
	"potsherd/api"
)

func column(name string, k api.Kind) api.Col { return api.Col{Name: name, Kind: k} }
func boolean(b bool) api.Value               { return api.Value{Kind: api.KindBool, B: b} }
func whole(n int64) api.Value                { return api.Value{Kind: api.KindInt, N: n} }
func text(s string) api.Value                { return api.Value{Kind: api.KindText, S: s} }
func null() api.Value                        { return api.Value{} }
func op(k api.StepKind) api.Step             { return api.Step{Kind: k} }
func at(n int64) api.Step                    { return api.Step{Kind: api.StepCol, N: n} }
func col(s string) api.Step                  { return api.Step{Kind: api.StepCol, Text: s} }
func steps(l ...api.Step) []api.Step         { return l }

// put is the step that comes to that value.
func put(v api.Value) api.Step {
	switch {
	case v == boolean(true):
		return op(api.StepTrue)
	case v == boolean(false):
		return op(api.StepFalse)
	case v.Kind == api.KindInt:
		return api.Step{Kind: api.StepInt, N: v.N}
	case v.Kind == api.KindText:
		return api.Step{Kind: api.StepText, Text: v.S}
	}
	return op(api.StepNull)
}

// twoOfEach are two columns of each kind, by the kind's number, null among them.
func twoOfEach() []api.Col {
	return []api.Col{
		column("n", api.KindNull), column("b", api.KindBool), column("i", api.KindInt), column("t", api.KindText),
		column("m", api.KindNull), column("c", api.KindBool), column("j", api.KindInt), column("u", api.KindText),
	}
}

func wantValue(t *testing.T, l []api.Step, row api.Row, cols []api.Col, want api.Value) {
	t.Helper()
	if v, why := algebra.Eval(l, row, cols); v != want || why != api.OK {
		t.Errorf("Eval(%v, %v) = %v, error %d; not %v", l, row, v, why, want)
	}
}

// wantOne asks of a value that is written out, and of one that is a column's.
func wantOne(t *testing.T, k api.StepKind, v, want api.Value) {
	t.Helper()
	wantValue(t, steps(put(v), op(k)), nil, nil, want)
	row := make(api.Row, 8)
	row[v.Kind] = v
	wantValue(t, steps(at(int64(v.Kind)), op(k)), row, twoOfEach(), want)
}

// wantTwo asks of two values that are written out, and of two that are columns'.
func wantTwo(t *testing.T, k api.StepKind, a, b, want api.Value) {
	t.Helper()
	wantValue(t, steps(put(a), put(b), op(k)), nil, nil, want)
	row := make(api.Row, 8)
	row[a.Kind], row[4+b.Kind] = a, b
	wantValue(t, steps(at(int64(a.Kind)), at(int64(4+b.Kind)), op(k)), row, twoOfEach(), want)
}

func TestEvalNone(t *testing.T) { // 5.1
	for _, v := range []api.Value{null(), boolean(true), boolean(false), whole(0), whole(math.MinInt64), whole(math.MaxInt64), text(""), text("é"), text(strings.Repeat("日", 85) + "x")} {
		wantValue(t, steps(put(v)), nil, nil, v)
		wantValue(t, steps(put(v)), api.Row{}, []api.Col{}, v)
		cols := twoOfEach()
		row := make(api.Row, len(cols))
		row[v.Kind] = v
		wantValue(t, steps(at(int64(v.Kind))), row, cols, v)
		wantValue(t, steps(at(int64(v.Kind+4))), row, cols, null())
	}
	// As many columns as a join of two tables may have: each is at its place.
	cols := slices.Repeat([]api.Col{column("a", api.KindInt)}, 2*api.MaxCols)
	var row api.Row
	for i := range cols {
		row = append(row, whole(int64(100+i)))
	}
	for i := range cols {
		wantValue(t, steps(at(int64(i))), row, cols, whole(int64(100+i)))
	}
}

func TestEvalOne(t *testing.T) { // 5.1
	for v, want := range map[api.Value]bool{null(): true, boolean(false): false, boolean(true): false, whole(0): false, whole(7): false, text(""): false, text("a"): false} {
		wantOne(t, api.StepIsNull, v, boolean(want))
	}
	for n, want := range map[int64]api.Value{0: whole(0), 1: whole(-1), -1: whole(1), math.MaxInt64: whole(-math.MaxInt64), -math.MaxInt64: whole(math.MaxInt64), math.MinInt64: null()} {
		wantOne(t, api.StepNeg, whole(n), want)
	}
	wantOne(t, api.StepNot, boolean(true), boolean(false))
	wantOne(t, api.StepNot, boolean(false), boolean(true))
	for s, n := range map[string]int64{"": 0, "a": 1, "é": 1, "日本": 2, "\x00": 1, "\uFFFD": 1, "\U0001F600x": 2, strings.Repeat("a", api.MaxText): api.MaxText, strings.Repeat("é", api.MaxText/2): api.MaxText / 2} {
		wantOne(t, api.StepLength, text(s), whole(n))
	}
	for _, k := range []api.StepKind{api.StepNeg, api.StepNot, api.StepLength} {
		wantOne(t, k, null(), null())
	}
}

func TestEvalNumbers(t *testing.T) { // 5.1: at both ends of 64 bits, and one past them
	const least, most = math.MinInt64, math.MaxInt64
	for _, x := range []struct {
		k    api.StepKind
		a, b int64
		want api.Value
	}{
		{api.StepAdd, 2, 3, whole(5)},
		{api.StepAdd, most - 1, 1, whole(most)},
		{api.StepAdd, most, 1, null()},
		{api.StepAdd, 1, most, null()},
		{api.StepAdd, least + 1, -1, whole(least)},
		{api.StepAdd, least, -1, null()},
		{api.StepAdd, least, most, whole(-1)},
		{api.StepAdd, least, least, null()}, // it is 0 again, modulo 2^64
		{api.StepSub, 2, 3, whole(-1)},
		{api.StepSub, 3, 2, whole(1)},
		{api.StepSub, least + 1, 1, whole(least)},
		{api.StepSub, least, 1, null()},
		{api.StepSub, most, -1, null()},
		{api.StepSub, -1, least, whole(most)},
		{api.StepSub, 0, least, null()},
		{api.StepSub, least, least, whole(0)},
		{api.StepMul, -2, 3, whole(-6)},
		{api.StepMul, 1 << 31, 1 << 31, whole(1 << 62)},
		{api.StepMul, 1 << 32, 1 << 31, null()},
		{api.StepMul, 1 << 32, -1 << 31, whole(least)},
		{api.StepMul, 1 << 32, 1 << 32, null()}, // it is 0, modulo 2^64
		{api.StepMul, least, -1, null()},
		{api.StepMul, -1, least, null()},
		{api.StepMul, least, 1, whole(least)},
		{api.StepMul, 0, least, whole(0)},
		{api.StepMul, most, most, null()},
	} {
		wantTwo(t, x.k, whole(x.a), whole(x.b), x.want)
	}
	// What is beyond in between is null, and stays so.
	wantValue(t, steps(put(whole(most)), put(whole(1)), op(api.StepAdd), put(whole(1)), op(api.StepSub)), nil, nil, null())
	wantValue(t, steps(put(whole(least)), op(api.StepNeg), put(whole(0)), op(api.StepMul)), nil, nil, null())
	wantValue(t, steps(put(whole(least)), op(api.StepNeg), op(api.StepIsNull)), nil, nil, boolean(true))
}

func TestEvalCompared(t *testing.T) { // 5.1
	rising := [][]api.Value{
		{boolean(false), boolean(true)},
		{whole(math.MinInt64), whole(-1), whole(0), whole(1), whole(math.MaxInt64)},
		{text(""), text("\x00"), text("a"), text("a\x00"), text("aé"), text("b"), text("é"), text("日"), text("\uFFFD"), text("\U00010000")},
	}
	for _, l := range rising {
		for i, a := range l {
			for j, b := range l {
				wantTwo(t, api.StepEqual, a, b, boolean(i == j))
				wantTwo(t, api.StepUnlike, a, b, boolean(i != j))
				wantTwo(t, api.StepLess, a, b, boolean(i < j))
				wantTwo(t, api.StepMost, a, b, boolean(i <= j))
				wantTwo(t, api.StepMore, a, b, boolean(i > j))
				wantTwo(t, api.StepLeast, a, b, boolean(i >= j))
			}
		}
	}
}

func TestEvalOfNull(t *testing.T) { // 5.1
	for k := api.StepAdd; k <= api.StepLeast; k++ {
		others := []api.Value{null(), whole(0), whole(1)}
		if k >= api.StepEqual {
			others = append(others, boolean(false), boolean(true), text(""), text("a"))
		}
		for _, v := range others {
			wantTwo(t, k, null(), v, null())
			wantTwo(t, k, v, null(), null())
		}
	}
}

func TestEvalAndOr(t *testing.T) { // 5.1
	all := []api.Value{boolean(false), null(), boolean(true)} // AND is the least of these, OR the greatest
	for i, a := range all {
		for j, b := range all {
			wantTwo(t, api.StepAnd, a, b, all[min(i, j)])
			wantTwo(t, api.StepOr, a, b, all[max(i, j)])
		}
	}
}

func TestEvalMany(t *testing.T) { // 5.1
	cols := []api.Col{column("a", api.KindInt), column("s", api.KindText), column("b", api.KindBool)}
	row := api.Row{whole(5), text("é日"), null()}
	three := steps(at(0), put(whole(2)), op(api.StepSub)) // 5 - 2: the first one taken stands ahead
	wantValue(t, three, row, cols, whole(3))
	wantValue(t, slices.Concat(three, steps(at(1), op(api.StepLength), op(api.StepMul))), row, cols, whole(6))
	wantValue(t, slices.Concat(three, steps(at(1), op(api.StepLength), op(api.StepMore), at(2), op(api.StepOr))), row, cols, boolean(true))
	wantValue(t, slices.Concat(three, steps(at(1), op(api.StepLength), op(api.StepMore), at(2), op(api.StepAnd))), row, cols, null())
	wantValue(t, steps(at(0), put(whole(3)), put(whole(1)), op(api.StepSub), op(api.StepSub)), row, cols, whole(3))
	// As many steps as may be.
	wantValue(t, slices.Concat(steps(put(boolean(true))), slices.Repeat(steps(op(api.StepNot)), api.MaxExpr-1)), nil, nil, boolean(false))
	wantValue(t, slices.Concat(slices.Repeat(steps(put(whole(1))), 32), slices.Repeat(steps(op(api.StepAdd)), 31)), nil, nil, whole(32))
	wantValue(t, slices.Concat(slices.Repeat(steps(put(whole(1))), 32), slices.Repeat(steps(op(api.StepSub)), 31)), nil, nil, whole(0))
}

func TestEvalErrors(t *testing.T) { // 5.1, P2, P3: Kind's first, then CheckRow's, value by value
	cols := []api.Col{column("a", api.KindInt), column("s", api.KindText)}
	good := api.Row{whole(1), text("a")}
	long, bad := text(strings.Repeat("a", api.MaxText+1)), text("\xff")
	a := steps(at(0))
	over := slices.Repeat(cols, api.MaxCols+1)
	for name, x := range map[string]struct {
		l    []api.Step
		row  api.Row
		cols []api.Col
		want api.Errno
	}{
		"right":                         {a, good, cols, api.OK},
		"null":                          {a, api.Row{null(), null()}, cols, api.OK},
		"no steps":                      {nil, good, cols, api.ErrSyntax},
		"two values left":               {steps(at(0), at(0)), good, cols, api.ErrSyntax},
		"nothing to take":               {steps(op(api.StepNot)), good, cols, api.ErrSyntax},
		"no step":                       {steps(op(api.StepNone)), good, cols, api.ErrSyntax},
		"a step beyond":                 {steps(op(api.StepCount)), good, cols, api.ErrSyntax},
		"a step too many":               {slices.Concat(a, slices.Repeat(steps(op(api.StepNeg)), api.MaxExpr)), good, cols, api.ErrSyntax},
		"a wrong field":                 {steps(api.Step{Kind: api.StepNull, N: 1}), good, cols, api.ErrSyntax},
		"a bad text":                    {steps(put(bad)), good, cols, api.ErrSyntax},
		"syntax ahead of many":          {nil, good, over, api.ErrSyntax},
		"too many columns":              {a, slices.Repeat(good, api.MaxCols+1), over, api.ErrMany},
		"many ahead of range":           {steps(at(99)), good, over, api.ErrMany},
		"below":                         {steps(at(-1)), good, cols, api.ErrRange},
		"beyond":                        {steps(at(2)), append(good[:2:2], null()), cols, api.ErrRange},
		"no columns":                    {a, nil, nil, api.ErrRange},
		"a name":                        {steps(col("a")), good, cols, api.ErrRange},
		"range ahead of type":           {steps(at(1), op(api.StepNeg), at(2), op(api.StepAdd)), good, cols, api.ErrRange},
		"a text below nought":           {steps(at(1), op(api.StepNeg)), good, cols, api.ErrType},
		"type ahead of the row's many":  {steps(at(1), op(api.StepNeg)), nil, cols, api.ErrType},
		"type ahead of the row's long":  {steps(at(1), op(api.StepNeg)), api.Row{whole(1), long}, cols, api.ErrType},
		"no row":                        {a, nil, cols, api.ErrMany},
		"a short row":                   {a, good[:1], cols, api.ErrMany},
		"a long row":                    {a, append(good[:2:2], null()), cols, api.ErrMany},
		"many ahead of type in the row": {a, api.Row{text("a")}, cols, api.ErrMany},
		"of another kind":               {a, api.Row{text("a"), text("a")}, cols, api.ErrType},
		"not asked, of another kind":    {a, api.Row{whole(1), whole(1)}, cols, api.ErrType},
		"no kind":                       {a, api.Row{whole(1), {Kind: api.KindCount}}, cols, api.ErrType},
		"null with a number":            {a, api.Row{{N: 1}, null()}, cols, api.ErrType},
		"too long":                      {a, api.Row{whole(1), long}, cols, api.ErrLong},
		"no UTF-8":                      {a, api.Row{whole(1), bad}, cols, api.ErrUtf},
		"type ahead of long":            {a, api.Row{boolean(true), long}, cols, api.ErrType},
		"long ahead of type":            {a, api.Row{long, text("a")}, cols, api.ErrLong},
		"a value where null must be":    {steps(put(whole(1))), api.Row{whole(1)}, []api.Col{column("n", api.KindNull)}, api.ErrType},
		"null of no kind":               {a, api.Row{null()}, []api.Col{column("n", 9)}, api.OK},
	} {
		v, why := algebra.Eval(x.l, x.row, x.cols)
		if why != x.want || why != api.OK && v != (api.Value{}) {
			t.Errorf("%s: %v, error %d; not %d", name, v, why, x.want)
		}
	}
}
