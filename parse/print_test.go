package parse_test

import (
	"slices"
	"testing"

	"potsherd/api"
	"potsherd/parse"
)

func TestShow(t *testing.T) { // 3.3
	a, b, c := col("a"), col("t.b"), col("é")
	for want, l := range map[string][]api.Step{
		"null": steps(op(api.StepNull)), "true": steps(op(api.StepTrue)), "false": steps(op(api.StepFalse)),
		"0": steps(whole(0)), "-9223372036854775808": steps(whole(-1 << 63)), "9223372036854775807": steps(whole(1<<63 - 1)),
		`""`: steps(text("")), `"é\"\\\u{a}\u{7f}"`: steps(text("é\"\\\n\x7f")),
		"a": steps(a), "t.b": steps(b), "é": steps(c),
		"(neg a)":                   steps(a, op(api.StepNeg)),
		"(not a)":                   steps(a, op(api.StepNot)),
		"(null? a)":                 steps(a, op(api.StepIsNull)),
		"(length a)":                steps(a, op(api.StepLength)),
		"(+ a t.b)":                 steps(a, b, op(api.StepAdd)),
		"(- a t.b)":                 steps(a, b, op(api.StepSub)),
		"(* a t.b)":                 steps(a, b, op(api.StepMul)),
		"(= a t.b)":                 steps(a, b, op(api.StepEqual)),
		"(<> a t.b)":                steps(a, b, op(api.StepUnlike)),
		"(< a t.b)":                 steps(a, b, op(api.StepLess)),
		"(<= a t.b)":                steps(a, b, op(api.StepMost)),
		"(> a t.b)":                 steps(a, b, op(api.StepMore)),
		"(>= a t.b)":                steps(a, b, op(api.StepLeast)),
		"(and a (and t.b é))":       steps(a, b, c, op(api.StepAnd), op(api.StepAnd)),
		"(or (or a t.b) é)":         steps(a, b, op(api.StepOr), c, op(api.StepOr)),
		"(- (neg a) (+ t.b \"x\"))": steps(a, op(api.StepNeg), b, text("x"), op(api.StepAdd), op(api.StepSub)),
	} {
		if s, why := parse.Show(l); s != want || why != api.OK {
			t.Errorf("Show(%v) = %q, error %d", l, s, why)
		}
	}
	for _, l := range [][]api.Step{nil, steps(), steps(a, a), steps(op(api.StepNeg)), steps(op(api.StepNone)), steps(text("\xff")), steps(col("null")), slices.Repeat(steps(a), 1000)} {
		if s, why := parse.Show(l); s != "" || why != api.ErrSyntax {
			t.Errorf("Show(%v) = %q, error %d", l, s, why)
		}
	}
}

func TestShowAtLimits(t *testing.T) { // 3.3: no text is too long for it, and nothing too deep
	l := append(steps(col("a")), slices.Repeat(steps(op(api.StepNeg)), api.MaxExpr-1)...)
	if s, why := parse.Show(l); s != negs(api.MaxExpr-1, "a") || why != api.OK {
		t.Errorf("Show of a deep one: %q, error %d", s, why)
	}
	l = append(slices.Repeat(steps(text(times(api.MaxText, "\x01"))), 32), slices.Repeat(steps(op(api.StepAnd)), 31)...)
	long := `"` + times(api.MaxText, `\u{1}`) + `"`
	if s, why := parse.Show(l); s != times(31, "(and "+long+" ")+long+times(31, ")") || why != api.OK {
		t.Errorf("Show of a long one: %d bytes, error %d", len(s), why)
	}
	two := times(64, "a") + "." + times(64, "b")
	if s, why := parse.Show(steps(col(two))); s != two || why != api.OK {
		t.Errorf("Show of a long column: %q, error %d", s, why)
	}
}

func TestPrint(t *testing.T) { // 3.3
	for want, q := range map[string]api.Query{
		"(from t)":                  {Table: "t"},
		"(from t (join u t.k u.k))": {Table: "t", Join: "u", Left: "t.k", Right: "u.k"},
		"(from t (where (= a 3)))":  {Table: "t", Where: steps(col("a"), whole(3), op(api.StepEqual))},
		"(from t (get a))":          {Table: "t", Items: []api.Item{plain(col("a"))}},
		"(from t (group a t.b) (get (min a) (max (neg a)) \"é\"))": {Table: "t", Group: []string{"a", "t.b"}, Items: []api.Item{{Agg: api.AggMin, Expr: steps(col("a"))}, {Agg: api.AggMax, Expr: steps(col("a"), op(api.StepNeg))}, plain(text("é"))}},
		"(from t (join u t.k u.k) (where (= a 3)) (group t.b) (get (count) (sum (+ a 1)) t.b))": {
			Table: "t", Join: "u", Left: "t.k", Right: "u.k", Where: steps(col("a"), whole(3), op(api.StepEqual)), Group: []string{"t.b"},
			Items: []api.Item{{Agg: api.AggCount}, {Agg: api.AggSum, Expr: steps(col("a"), whole(1), op(api.StepAdd))}, plain(col("t.b"))},
		},
	} {
		if s, why := parse.Print(q); s != want || why != api.OK {
			t.Errorf("Print(%+v) = %q, error %d", q, s, why)
		}
	}
}
