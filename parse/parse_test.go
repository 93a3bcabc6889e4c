package parse_test

import (
	"reflect"
	"strings"
	"testing"
	"unicode/utf8"

	"potsherd/api"
	"potsherd/parse"
)

func col(s string) api.Step          { return api.Step{Kind: api.StepCol, Text: s} }
func whole(n int64) api.Step         { return api.Step{Kind: api.StepInt, N: n} }
func text(s string) api.Step         { return api.Step{Kind: api.StepText, Text: s} }
func op(k api.StepKind) api.Step     { return api.Step{Kind: k} }
func steps(l ...api.Step) []api.Step { return l }
func plain(l ...api.Step) api.Item   { return api.Item{Expr: l} }
func times(n int, s string) string   { return strings.Repeat(s, n) }

// negs is a text with n brackets around it.
func negs(n int, inner string) string { return times(n, "(neg ") + inner + times(n, ")") }

func wantQuery(t *testing.T, s string, want api.Query) {
	t.Helper()
	q, why, at := parse.Parse(s)
	if !reflect.DeepEqual(q, want) || why != api.OK || at != 0 {
		t.Errorf("Parse(%q) = %+v, error %d at %d; not %+v", s, q, why, at, want)
	}
}

func wantFault(t *testing.T, s string, why api.Errno, at int) {
	t.Helper()
	q, got, place := parse.Parse(s)
	if got != why || place != at || !reflect.DeepEqual(q, api.Query{}) {
		t.Errorf("Parse(%q) = %+v, error %d at %d; not %d at %d", s, q, got, place, why, at)
	}
}

// wantMarked wants the error at the place of the mark ^, which is left out.
func wantMarked(t *testing.T, marked string, why api.Errno) {
	t.Helper()
	ahead, behind, ok := strings.Cut(marked, "^")
	if !ok {
		t.Fatalf("no mark in %q", marked)
	}
	wantFault(t, ahead+behind, why, utf8.RuneCountInString(ahead))
}

func TestParseClauses(t *testing.T) { // 3.1
	wantQuery(t, "(from t)", api.Query{Table: "t"})
	wantQuery(t, "; a remark\n\t( from\rt ) ;)", api.Query{Table: "t"})
	wantQuery(t, "(from t(join u t.k k))", api.Query{Table: "t", Join: "u", Left: "t.k", Right: "k"})
	wantQuery(t, "(from t(where a))", api.Query{Table: "t", Where: steps(col("a"))})
	wantQuery(t, "(from t(get a))", api.Query{Table: "t", Items: []api.Item{plain(col("a"))}})
	wantQuery(t, "(from t(group a t.b)(get 1))", api.Query{Table: "t", Group: []string{"a", "t.b"}, Items: []api.Item{plain(whole(1))}})
	wantQuery(t, "(from t (join u a b) (get a))", api.Query{Table: "t", Join: "u", Left: "a", Right: "b", Items: []api.Item{plain(col("a"))}})
	wantQuery(t, "(from t (join u a b) (where c) (group d e) (get f (count) (sum g) (min h) (max (neg i))))", api.Query{
		Table: "t", Join: "u", Left: "a", Right: "b", Where: steps(col("c")), Group: []string{"d", "e"},
		Items: []api.Item{plain(col("f")), {Agg: api.AggCount}, {Agg: api.AggSum, Expr: steps(col("g"))}, {Agg: api.AggMin, Expr: steps(col("h"))}, {Agg: api.AggMax, Expr: steps(col("i"), op(api.StepNeg))}},
	})
	// The words of the language are names, too, but for three.
	wantQuery(t, "(from from (join join where where) (where and) (group group) (get get count sum (count)))", api.Query{
		Table: "from", Join: "join", Left: "where", Right: "where", Where: steps(col("and")), Group: []string{"group"},
		Items: []api.Item{plain(col("get")), plain(col("count")), plain(col("sum")), {Agg: api.AggCount}},
	})
}

func TestParseExpressions(t *testing.T) { // 3.1
	a, b, c := col("a"), col("b"), col("c")
	for s, want := range map[string][]api.Step{
		"null":                                   steps(op(api.StepNull)),
		"true":                                   steps(op(api.StepTrue)),
		"false":                                  steps(op(api.StepFalse)),
		"0":                                      steps(whole(0)),
		"-7":                                     steps(whole(-7)),
		`""`:                                     steps(text("")),
		`"null\u{e9}"`:                           steps(text("nullé")),
		`"a.b" `:                                 steps(text("a.b")),
		"a":                                      steps(a),
		"t.a":                                    steps(col("t.a")),
		"_":                                      steps(col("_")),
		"é日.x9":                                  steps(col("é日.x9")),
		"Null":                                   steps(col("Null")),
		"nullx":                                  steps(col("nullx")),
		"(neg a)":                                steps(a, op(api.StepNeg)),
		"(not a)":                                steps(a, op(api.StepNot)),
		"(null? a)":                              steps(a, op(api.StepIsNull)),
		"(length a)":                             steps(a, op(api.StepLength)),
		"(+ a b)":                                steps(a, b, op(api.StepAdd)),
		"(- a b)":                                steps(a, b, op(api.StepSub)),
		"(* a b)":                                steps(a, b, op(api.StepMul)),
		"(= a b)":                                steps(a, b, op(api.StepEqual)),
		"(<> a b)":                               steps(a, b, op(api.StepUnlike)),
		"(< a b)":                                steps(a, b, op(api.StepLess)),
		"(<= a b)":                               steps(a, b, op(api.StepMost)),
		"(> a b)":                                steps(a, b, op(api.StepMore)),
		"(>= a b)":                               steps(a, b, op(api.StepLeast)),
		"(and a b)":                              steps(a, b, op(api.StepAnd)),
		"(or a b)":                               steps(a, b, op(api.StepOr)),
		"(and a b c)":                            steps(a, b, c, op(api.StepAnd), op(api.StepAnd)),
		"(or a b c a b)":                         steps(a, b, c, a, b, op(api.StepOr), op(api.StepOr), op(api.StepOr), op(api.StepOr)),
		"(not (= b 2))":                          steps(b, whole(2), op(api.StepEqual), op(api.StepNot)),
		"(or (and a b c) (not a) (< 1 (- b c)))": steps(a, b, c, op(api.StepAnd), op(api.StepAnd), a, op(api.StepNot), whole(1), b, c, op(api.StepSub), op(api.StepLess), op(api.StepOr), op(api.StepOr)),
		"(length length)":                        steps(col("length"), op(api.StepLength)),
		"(+(neg a)(neg b))":                      steps(a, op(api.StepNeg), b, op(api.StepNeg), op(api.StepAdd)),
	} {
		wantQuery(t, "(from t (where "+s+"))", api.Query{Table: "t", Where: want})
		wantQuery(t, "(from t (get "+s+" "+s+"))", api.Query{Table: "t", Items: []api.Item{plain(want...), plain(want...)}})
		wantQuery(t, "(from t (get (max "+s+")))", api.Query{Table: "t", Items: []api.Item{{Agg: api.AggMax, Expr: want}}})
	}
}

func TestLexFaults(t *testing.T) { // 3.1: they come ahead of all others, wherever they are
	wantFault(t, ") \"a", api.ErrSyntax, 2)
	wantFault(t, ") \"\xff\"", api.ErrUtf, 2)
	wantFault(t, "é 007", api.ErrSyntax, 2)
	wantFault(t, "x \""+times(api.MaxText+1, "a")+"\"", api.ErrLong, 2)
	wantFault(t, ")"+times(api.MaxQuery, " "), api.ErrLong, 0)
	wantFault(t, ")"+times(api.MaxQuery-1, " "), api.ErrSyntax, 0)
	wantQuery(t, "(from t)"+times(api.MaxQuery-8, " "), api.Query{Table: "t"})
	wantFault(t, "(from t)"+times(api.MaxQuery-7, " "), api.ErrLong, 0)
}

func TestTokensThatMayNotCome(t *testing.T) { // 3.1
	for _, s := range []string{
		"^", "  ; x^", "^)", "^from", "^7", `^"(from t)"`, "(^)", "(^t)", "(^(from t))", `(^"from" t)`, "(^From t)",
		"(from^", "(from é\n^", "(from t^", "(from t ; é)^", "(from ^)", "(from ^7)", `(from ^"t")`, "(from ^(t))", "(from ^null)", "(from ^true)", "(from ^false)", "(from ^t.u)", "(from ^+)", "(from ^a-b)", "(from ^a?)",
		"(from t ^u)", "(from t ^7)", `(from t ^"u")`, "(from t (^", "(from t (^))", "(from t (^foo))", "(from t (^(where a)))", `(from t (^"where" a))`, "(from t (^7))",
		"(from t) ^x", "(from t) ^(from t)", "(from t)^)", "(from t) ^7", "(from é) ^é",
		"(from t (join ^))", "(from t (join ^u.k a b))", "(from t (join ^null a b))", "(from t (join u ^))", "(from t (join u a ^))", "(from t (join u ^7 b))", "(from t (join u ^true b))", "(from t (join u a ^b.c.d))", "(from t (join u a ^a.))", "(from t (join u ^(neg a) b))", "(from t (join u a b ^c))", "(from t (join u a b ^(where c)))", `(from t (join u ^"a" b))`,
		"(from t (where ^))", "(from t (where a ^b))", "(from t (where ^+))", "(from t (where ^a.b.c))", "(from t (where ^.a))", "(from t (where ^a.1))", "(from t (where ^a.null))", "(from t (where ^null?))", "(from t (where (^)))", "(from t (where (^a)))", "(from t (where (^7 a)))", "(from t (where (^null)))", "(from t (where (^(neg a))))", "(from t (where (^count)))", "(from t (where (^sum a)))", "(from t (where (^foo a)))", `(from t (where (^"neg" a)))`, "(from t (where (^Neg a)))", "(from t (where (neg (^min a))))",
		"(from t (where (neg ^)))", "(from t (where (neg a ^b)))", "(from t (where (not a ^(neg b))))", "(from t (where (+ ^)))", "(from t (where (+ a ^)))", "(from t (where (+ a b ^c)))", "(from t (where (>= a b ^1)))", "(from t (where (and ^)))", "(from t (where (and a ^)))", "(from t (where (or a ^)))", "(from t (where (and a b ^+)))", "(from t (where (and a b c^", "(from t (where (neg a^", "(from t (where a^", "(from t (where a)^",
		"(from t (group ^))", "(from t (group ^7))", "(from t (group ^(a)))", "(from t (group a ^(a)))", "(from t (group a ^null))", `(from t (group a ^"b"))`, "(from t (group a^",
		"(from t (get ^))", "(from t (get ^+))", "(from t (get a ^a.b.c))", "(from t (get a^", "(from t (get (^)))", "(from t (get (^a)))", `(from t (get (^"count")))`, `(from t (get (^"sum" a)))`, "(from t (get (^7)))", "(from t (get (count ^a)))", "(from t (get (count ^(neg a))))", "(from t (get (sum ^)))", "(from t (get (sum a ^b)))", "(from t (get (sum (^sum a))))", "(from t (get (min (^count))))", "(from t (get (max ^+)))", "(from t (get (^(count))))", "(from t (get (neg (^count))))",
		"(from t (where a) (^join u a b))", "(from t (where a) (^where a))", "(from t (join u a b) (^join u a b))", "(from t (group a) (^group b))", "(from t (group a) (^where b))", "(from t (group a) (^join u a b) (get a))", "(from t (get a) ^(get b))", "(from t (get a) ^(where b))", "(from t (get a) ^(foo))", "(from t (get a) ^a)",
	} {
		wantMarked(t, s, api.ErrSyntax)
	}
}

func TestQueriesThatAreNotRight(t *testing.T) { // 3.1: told at 0, once all is read
	wantFault(t, "  (from t (join t a b))", api.ErrSyntax, 0)
	wantFault(t, "  (from t (group a))", api.ErrSyntax, 0)
	wantFault(t, "  (from t (where a) (group a b))", api.ErrSyntax, 0)
	wantFault(t, "(from t (join t a b) x)", api.ErrSyntax, 21)
	wantFault(t, "(from t (group a)) x", api.ErrSyntax, 19)
	wantFault(t, "(from t (join t a b) (get a a a a a a a a a))", api.ErrMany, 42)
}

func TestNested(t *testing.T) { // 3.1: MaxNest brackets, and one more
	if q, why, _ := parse.Parse("(from t (where " + negs(api.MaxNest-2, "a") + "))"); why != api.OK || len(q.Where) != api.MaxNest-1 {
		t.Error("as deep as may be: error", why)
	}
	wantMarked(t, "(from t (where "+times(api.MaxNest-2, "(neg ")+"^"+negs(1, "a")+times(api.MaxNest, ")"), api.ErrDepth)
	if _, why, _ := parse.Parse("(from t (get " + negs(api.MaxNest-2, "a") + " (sum " + negs(api.MaxNest-3, "a") + ")))"); why != api.OK {
		t.Error("items as deep as may be: error", why)
	}
	wantMarked(t, "(from t (get "+times(api.MaxNest-2, "(neg ")+"^(neg a", api.ErrDepth)
	wantMarked(t, "(from t (get (sum "+times(api.MaxNest-3, "(neg ")+"^(neg a", api.ErrDepth)
	// Brackets that are closed again are not around.
	wantQuery(t, "(from t (where (+ "+negs(2, "a")+" "+negs(2, "a")+")))", api.Query{Table: "t", Where: steps(col("a"), op(api.StepNeg), op(api.StepNeg), col("a"), op(api.StepNeg), op(api.StepNeg), op(api.StepAdd))})
	wantMarked(t, "(from t (where (and "+negs(5, "a")+" "+negs(5, "a")+" "+times(5, "(neg ")+"^(", api.ErrDepth)
	// The opening bracket is told as nested too deep, though it may not come, either.
	deep := "(from t (where " + times(api.MaxNest-2, "(neg ")
	wantMarked(t, deep+"a ^(", api.ErrDepth)
	wantMarked(t, deep[:len(deep)-len("neg ")]+"^(", api.ErrDepth)
	wantMarked(t, deep[:len(deep)-len("(neg ")]+"a ^(", api.ErrSyntax)
	wantMarked(t, deep+"^)", api.ErrSyntax)
	wantMarked(t, deep+"a ^b", api.ErrSyntax)
	wantMarked(t, deep+"^", api.ErrSyntax)
}

func TestTooManyItems(t *testing.T) { // 3.1
	q, why, _ := parse.Parse("(from t (get" + times(api.MaxItems, " (count)") + "))")
	if why != api.OK || len(q.Items) != api.MaxItems {
		t.Error("as many items as may be: error", why)
	}
	for _, s := range []string{"^a", "^7", "^\"\"", "^null", "^(count)", "^(neg a)", "^(foo)", "^(", "^()", "^(("} {
		wantMarked(t, "(from t (get"+times(api.MaxItems, " (neg é)")+" "+s, api.ErrMany)
	}
	for _, s := range []string{"^+", "^a.b.c", "^"} {
		wantMarked(t, "(from t (get"+times(api.MaxItems, " a")+" "+s, api.ErrSyntax)
	}
}

func TestTooManyColumnsOfAGroup(t *testing.T) { // 3.1
	q, why, _ := parse.Parse("(from t (group" + times(api.MaxItems, " t.a") + ") (get a))")
	if why != api.OK || len(q.Group) != api.MaxItems {
		t.Error("as many columns as may be: error", why)
	}
	wantMarked(t, "(from t (group"+times(api.MaxItems, " a")+" ^a", api.ErrMany)
	wantMarked(t, "(from t (group"+times(api.MaxItems, " a")+" ^t.a b c))", api.ErrMany)
	for _, s := range []string{"^+", "^7", "^(a)", "^null", "^"} {
		wantMarked(t, "(from t (group"+times(api.MaxItems, " a")+" "+s, api.ErrSyntax)
	}
}

func TestTooManySteps(t *testing.T) { // 3.1
	sum := func(pairs int) string { return "(and" + times(pairs, " (not a)") } // 2 pairs steps, and pairs - 1
	for _, around := range []string{"(from t (where %))", "(from t (get %))", "(from t (get b (max %)))"} {
		ahead, behind, _ := strings.Cut(around, "%")
		for s, n := range map[string]int{
			"(and" + times(32, " a") + ")":         63,
			"(neg (or" + times(32, " a") + "))":    64,
			"(and (not a)" + times(31, " a") + ")": 64,
			sum(21) + ")":                          62,
		} {
			q, why, _ := parse.Parse(ahead + s + behind)
			got := len(q.Where)
			for _, item := range q.Items {
				got = max(got, len(item.Expr))
			}
			if why != api.OK || got != n {
				t.Errorf("%q: %d steps, error %d", ahead+s+behind, got, why)
			}
		}
		for _, s := range []string{
			"(and" + times(33, " a") + "^)",
			"(and" + times(64, " a") + " ^a",
			"(and" + times(64, " 7") + " ^\"é\" b)",
			"(and" + times(63, " a") + " a^)",
			"(and" + times(63, " a") + " (neg a^) b)",
			"(and" + times(62, " a") + " (+ a b^) c)",
			"(and" + times(62, " é") + " (+ a (+ b ^c)))",
			"(neg (neg (or" + times(32, " a") + "))^)",
			"(and (neg (or" + times(32, " a") + ")) ^b)",
			sum(22) + "^)",
		} {
			wantMarked(t, ahead+s+behind, api.ErrMany)
		}
		// What may not come is told so, even if it would be a step too many.
		wantMarked(t, ahead+"(neg (neg (or"+times(32, " a")+") ^b", api.ErrSyntax)
		wantMarked(t, ahead+"(+ (neg (or"+times(32, " a")+")) ^)", api.ErrSyntax)
		wantMarked(t, ahead+"(and"+times(64, " a")+" ^+", api.ErrSyntax)
		wantMarked(t, ahead+"(and"+times(64, " a")+" ^", api.ErrSyntax)
	}
	// Each expression has as many.
	full := "(neg (or" + times(32, " a") + "))"
	if q, why, _ := parse.Parse("(from t (where " + full + ") (get " + times(8, full) + "))"); why != api.OK || len(q.Items) != 8 {
		t.Error("full expressions: error", why)
	}
}

func TestNames(t *testing.T) { // 3.1: as texts, and by hand
	for name, ok := range map[string]bool{
		"a": true, "z": true, "A": true, "Z": true, "a0": true, "a9": true, "_": true, "_0": true, "é": true, "\u0080": true, "\uFFFD": true, "日9": true, "nulls": true, "True": true,
		times(64, "a"): true, times(32, "é"): true, times(65, "a"): false, times(32, "é") + "a": false,
		"": false, "9": false, "9a": false, "a-b": false, "a b": false, "a?": false, "null": false, "true": false, "false": false, "a.b": false, "@": false, "[": false, "`": false, "{": false, "a/": false, "a:": false, "a\x7f": false, "a\x00": false, "\xff": false, "a\xff": false,
	} {
		if why := parse.Check(api.Query{Table: name}); (why == api.OK) != ok {
			t.Errorf("the table %q: error %d", name, why)
		}
		if _, why, _ := parse.Parse("(from " + name + ")"); (why == api.OK) != ok {
			t.Errorf("(from %s): error %d", name, why)
		}
		if _, got := parse.Takes(col(name)); got != (ok || name == "a.b") {
			t.Errorf("the column %q: %v", name, got)
		}
		for _, two := range []string{"t." + name, name + ".t"} {
			if _, got := parse.Takes(col(two)); got != ok {
				t.Errorf("the column %q: %v", two, got)
			}
		}
	}
	for _, s := range []string{".", "a.", ".a", "a..b", "a.b.c", "a.b."} {
		if _, ok := parse.Takes(col(s)); ok {
			t.Errorf("the column %q", s)
		}
	}
	if _, ok := parse.Takes(col(times(64, "a") + "." + times(64, "b"))); !ok {
		t.Error("a column's text of two names as long as may be")
	}
}
