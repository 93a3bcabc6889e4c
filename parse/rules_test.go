package parse_test

import (
	"math/rand/v2"
	"reflect"
	"runtime"
	"slices"
	"strings"
	"testing"
	"unsafe"

	"potsherd/api"
	"potsherd/lex"
	"potsherd/parse"
)

// dice are the same ones each time.
func dice() *rand.Rand { return rand.New(rand.NewPCG(3, 5)) }

func pick[T any](d *rand.Rand, l ...T) T { return l[d.IntN(len(l))] }

func randomColumn(d *rand.Rand) string {
	return pick(d, "a", "b", "t.a", "é.日9", "_", "count", "from", times(20, "ab")+"."+times(20, "c"))
}

// randomExpr is a right expression of n steps.
func randomExpr(d *rand.Rand, n int) []api.Step {
	switch {
	case n == 1:
		return steps(pick(d, op(api.StepNull), op(api.StepTrue), op(api.StepFalse), whole(int64(d.Uint64())), whole(0), whole(-1), text(""), text("é\"\\\n\x00;)"), text("null"), text(times(d.IntN(api.MaxText+1), "x")), col(randomColumn(d)), col("a")))
	case n == 2 || d.IntN(4) == 0:
		return append(randomExpr(d, n-1), op(api.StepNeg+api.StepKind(d.IntN(4))))
	}
	left := 1 + d.IntN(n-2)
	return slices.Concat(randomExpr(d, left), randomExpr(d, n-1-left), steps(op(api.StepAdd+api.StepKind(d.IntN(11)))))
}

func randomSize(d *rand.Rand) int {
	return pick(d, 1, 1, 2, 3, 5, 9, 1+d.IntN(api.MaxExpr), api.MaxExpr)
}

func randomQuery(d *rand.Rand) api.Query {
	q := api.Query{Table: pick(d, "t", "from", "é")}
	if d.IntN(2) == 0 {
		q.Join, q.Left, q.Right = pick(d, "u", "join"), randomColumn(d), randomColumn(d)
	}
	if d.IntN(2) == 0 {
		q.Where = randomExpr(d, randomSize(d))
	}
	for range pick(d, 0, 1, 2, api.MaxItems) {
		item := api.Item{Agg: api.AggKind(d.IntN(int(api.AggEnd)))}
		if item.Agg != api.AggCount {
			item.Expr = randomExpr(d, randomSize(d))
		}
		q.Items = append(q.Items, item)
	}
	for range pick(d, 0, 1, 2, api.MaxItems) {
		if len(q.Items) > 0 {
			q.Group = append(q.Group, randomColumn(d))
		}
	}
	return q
}

func TestThereAndBack(t *testing.T) { // 3.3, 3.5
	d := dice()
	read, long, deep := 0, 0, 0
	for range 6000 {
		q := randomQuery(d)
		s, why := parse.Print(q)
		want, nested := printAgain(q)
		if s != want || why != api.OK || parse.Check(q) != api.OK {
			t.Fatalf("Print(%+v) = %q, error %d; not %q", q, s, why, want)
		}
		back, why, at := parse.Parse(s)
		switch {
		case len(s) > api.MaxQuery:
			long++
			if why != api.ErrLong || at != 0 {
				t.Fatalf("Parse(%q): error %d at %d", s, why, at)
			}
		case nested > api.MaxNest:
			deep++
			if why != api.ErrDepth {
				t.Fatalf("Parse(%q): error %d at %d", s, why, at)
			}
		default:
			read++
			if why != api.OK || at != 0 || !reflect.DeepEqual(back, q) {
				t.Fatalf("Parse(%q) = %+v, error %d at %d; not %+v", s, back, why, at, q)
			}
		}
	}
	if read < 1000 || long < 50 || deep < 1000 {
		t.Error("too few of a sort:", read, long, deep)
	}
}

func TestShownAgain(t *testing.T) { // 3.2, 3.3
	d := dice()
	for range 5000 {
		l := randomExpr(d, randomSize(d))
		want, rest, _ := showAgain(l)
		if s, why := parse.Show(l); s != want || why != api.OK || !parse.Right(l) || len(rest) > 0 {
			t.Fatalf("Show(%v) = %q, error %d; not %q", l, s, why, want)
		}
		if parse.Right(append(l, col("a"))) || parse.Right(l[:len(l)-1]) && l[len(l)-1].Kind > api.StepLength {
			t.Fatalf("one more or fewer is right, too: %v", l)
		}
	}
}

func somePieces() []string {
	return []string{"(", ")", "from", "t", "join", "where", "group", "get", "count", "sum", "a.b", "a.b.c", "null", "7", `"x"`, "neg", "+", "and", "null?", "é", ">="}
}

func wantSame(t *testing.T, s string) api.Errno {
	t.Helper()
	q, why, at := parse.Parse(s)
	want, how, place := parseAgain(s)
	if !reflect.DeepEqual(q, want) || why != how || at != place {
		t.Fatalf("Parse(%q) = %+v, error %d at %d; not %+v, %d at %d", s, q, why, at, want, how, place)
	}
	if why == api.OK && parse.Check(q) != api.OK {
		t.Fatalf("Parse(%q) is not right: %+v", s, q)
	}
	if again, how, place := parse.Parse(strings.Clone(s)); !reflect.DeepEqual(q, again) || why != how || at != place {
		t.Fatalf("Parse(%q) is another one the next time", s)
	}
	return why
}

func TestAllTokens(t *testing.T) { // 3.1, 3.5, P1, P2, P3: all that may come behind each of these
	d := dice()
	for _, ahead := range []string{"", "(from t", "(from t (join u", "(from t (where", "(from t (where (and a", "(from t (where (neg (+ a", "(from t (group a", "(from t (get", "(from t (get a (sum", "(from t (where a) (get (neg", "(from t (where " + times(6, "(and a ")} {
		for _, a := range append(somePieces(), "") {
			for _, b := range somePieces() {
				for _, c := range somePieces() {
					wantSame(t, ahead+" "+a+" "+b+" "+c+pick(d, "", ")", "))", ")))"))
				}
			}
		}
	}
}

func TestChangedTokens(t *testing.T) { // 3.1, 3.5, P1, P2, P3: right queries, some of whose tokens are changed
	d := dice()
	seen := map[api.Errno]int{}
	for range 10000 {
		s, _ := parse.Print(randomQuery(d))
		l, why, _ := lex.Lex(s)
		if why != api.OK {
			continue
		}
		var parts []string
		for _, k := range l {
			p, _ := lex.Show(k)
			parts = append(parts, p)
		}
		for range d.IntN(4) {
			i := d.IntN(len(parts))
			switch d.IntN(4) {
			case 0:
				parts = slices.Delete(parts, i, i+1)
			case 1:
				parts = slices.Insert(parts, i, somePieces()[d.IntN(len(somePieces()))])
			case 2:
				parts[i] = somePieces()[d.IntN(len(somePieces()))]
			case 3:
				parts = parts[:i+1]
			}
			if len(parts) == 0 {
				parts = []string{"("}
			}
		}
		seen[wantSame(t, strings.Join(parts, pick(d, " ", "\n", " ;é\n")))]++
	}
	for _, why := range []api.Errno{api.OK, api.ErrSyntax, api.ErrDepth, api.ErrMany} {
		if seen[why] < 20 {
			t.Errorf("error %d only %d times", why, seen[why])
		}
	}
}

func TestBrackets(t *testing.T) { // 3.6
	d := dice()
	n := 0
	for range 1200 {
		s, _ := parse.Print(randomQuery(d))
		l, _, _ := lex.Lex(s)
		if _, why, _ := parse.Parse(s); why != api.OK || len(s) == api.MaxQuery {
			continue
		}
		n++
		letters := []rune(s)
		for _, k := range l {
			if k.Kind != api.TokenOpen && k.Kind != api.TokenClose {
				continue
			}
			fewer := string(slices.Delete(slices.Clone(letters), k.At, k.At+1))
			more := string(slices.Insert(slices.Clone(letters), k.At, letters[k.At]))
			for _, text := range []string{fewer, more} {
				if q, why, _ := parse.Parse(text); why != api.ErrSyntax && why != api.ErrDepth && why != api.ErrMany {
					t.Fatalf("Parse(%q) = %+v, error %d", text, q, why)
				}
			}
		}
	}
	if n < 100 {
		t.Error("too few:", n)
	}
}

// within tells whether a's bytes lie in b's memory.
func within(a, b string) bool {
	if a == "" || b == "" {
		return false
	}
	x, y := uintptr(unsafe.Pointer(unsafe.StringData(a))), uintptr(unsafe.Pointer(unsafe.StringData(b)))
	return x >= y && x < y+uintptr(len(b))
}

func TestNewMemory(t *testing.T) { // 3.4
	s := strings.Clone(`(from ta (join ub ca db) (where (and ea fa ga)) (group ha ia) (get ja (sum (+ ka la)) "text" (neg ma)))`)
	q, _, _ := parse.Parse(s)
	again, _, _ := parse.Parse(s)
	for _, x := range append([]string{q.Table, q.Join, q.Left, q.Right, q.Where[0].Text, q.Items[2].Expr[0].Text}, q.Group...) {
		if within(x, s) {
			t.Errorf("%q lies in the text that was handed in", x)
		}
	}
	spoil := func(l []api.Step) {
		_ = append(l, text("spoiled"))
		for i := range l {
			l[i] = text("spoiled")
		}
	}
	for i := range q.Items {
		spoil(q.Items[i].Expr[:len(q.Items[i].Expr)])
		for j := i + 1; j < len(q.Items); j++ {
			if !reflect.DeepEqual(q.Items[j], again.Items[j]) {
				t.Errorf("the items %d and %d share memory", i, j)
			}
		}
	}
	if !reflect.DeepEqual(q.Where, again.Where) {
		t.Error("where shares memory with items")
	}
	spoil(q.Where)
	q.Group[0], q.Items[0] = "spoiled", api.Item{}
	if third, _, _ := parse.Parse(s); !reflect.DeepEqual(again, third) {
		t.Error("an answer shares memory with an earlier one")
	}
	name := strings.Clone("columnsname")
	for _, l := range [][]api.Step{steps(col(name)), steps(text(name)), steps(col(name), op(api.StepNeg))} {
		if x, _ := parse.Show(l); within(x, name) || within(name, x) {
			t.Errorf("%q lies in what was handed in", x)
		}
	}
}

func TestNothingIsChanged(t *testing.T) { // 3.4
	d := dice()
	for range 500 {
		q := randomQuery(d)
		q.Where, q.Items, q.Group = slices.Grow(q.Where, 9), slices.Grow(q.Items, 9), slices.Grow(q.Group, 9)
		before, _ := printAgain(q)
		parse.Print(q)
		parse.Check(q)
		for _, item := range q.Items {
			parse.Show(item.Expr)
			parse.Right(item.Expr)
		}
		for _, rest := range q.Where[len(q.Where):cap(q.Where)] {
			if rest != (api.Step{}) {
				t.Fatal("something stands behind a list that was handed in:", rest)
			}
		}
		if after, _ := printAgain(q); after != before {
			t.Fatalf("%q was changed to %q", before, after)
		}
	}
}

func TestAnything(t *testing.T) { // P1, P2, P3, P4
	before := runtime.NumGoroutine()
	d := dice()
	texts := []string{"", "a", "t.a", "\xff", "null", times(1<<16, "a"), times(1<<16, "."), "(", "\x00"}
	odd := func() api.Step {
		return api.Step{Kind: api.StepKind(d.IntN(int(api.StepCount) + 2)), Text: pick(d, texts...), N: pick[int64](d, 0, 0, 1, -1<<63)}
	}
	oddList := func() []api.Step {
		l := make([]api.Step, pick(d, 0, 1, 2, 3, 64, 65, 1000))
		for i := range l {
			l[i] = odd()
		}
		return l
	}
	for range 20000 {
		q := api.Query{Table: pick(d, texts...), Join: pick(d, texts...), Left: pick(d, texts...), Right: pick(d, texts...), Where: oddList(), Group: make([]string, d.IntN(10)), Items: make([]api.Item, d.IntN(10))}
		for i := range q.Items {
			q.Items[i] = api.Item{Agg: api.AggKind(d.IntN(8)), Expr: oddList()}
		}
		s, why := parse.Print(q)
		if how := parse.Check(q); how != why || (why != api.OK) != (s == "") || why != api.OK && why != api.ErrSyntax {
			t.Fatalf("Print(%+v) = %q, error %d; Check: error %d", q, s, why, how)
		}
		s, why = parse.Show(q.Where)
		if right := parse.Right(q.Where); right != (why == api.OK) || right != (s != "") || !right && why != api.ErrSyntax {
			t.Fatalf("Show(%v) = %q, error %d; Right: %v", q.Where, s, why, right)
		}
		for _, x := range q.Where {
			if n, ok := parse.Takes(x); !ok && n != 0 {
				t.Fatalf("Takes(%v) = %d, %v", x, n, ok)
			}
		}
		var b []byte
		for range d.IntN(40) {
			b = append(b, pick(d, somePieces()...)...)
			b = append(b, pick(d, byte(' '), '\xff', '(', ')', ' ', ' '))
		}
		wantSame(t, string(b))
	}
	if n := runtime.NumGoroutine(); n > before { // an earlier test's own may have ended meanwhile
		t.Errorf("%d goroutines, and %d before", n, before)
	}
}
