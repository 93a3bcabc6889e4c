package algebra_test

import (
	"fmt"
	"math"
	"math/big"
	"math/rand/v2"
	"reflect"
	"runtime"
	"slices"
	"strings"
	"testing"
	"unicode/utf8"
	"unsafe"

	"potsherd/algebra"
	"potsherd/api"
	"potsherd/bind"
	"potsherd/value"
)

// dice are the same ones each time.
func dice() *rand.Rand { return rand.New(rand.NewPCG(5, 8)) }

func pick[T any](d *rand.Rand, l ...T) T { return l[d.IntN(len(l))] }

// evalAgain is what the expression that ends l comes to, from its end on, and what is ahead of it; nil is null, numbers are of any size till they are told.
func evalAgain(l []api.Step, row api.Row) (any, []api.Step) {
	s, rest := l[len(l)-1], l[:len(l)-1]
	switch s.Kind {
	case api.StepNull:
		return nil, rest
	case api.StepTrue:
		return true, rest
	case api.StepFalse:
		return false, rest
	case api.StepInt:
		return s.N, rest
	case api.StepText:
		return s.Text, rest
	case api.StepCol:
		return bare(row[s.N]), rest
	}
	b, rest := evalAgain(rest, row)
	switch s.Kind {
	case api.StepIsNull:
		return b == nil, rest
	case api.StepNeg, api.StepNot, api.StepLength:
		switch x := b.(type) {
		case int64:
			return told(new(big.Int).Neg(big.NewInt(x))), rest
		case bool:
			return !x, rest
		case string:
			return int64(utf8.RuneCountInString(x)), rest
		}
		return nil, rest
	}
	a, rest := evalAgain(rest, row)
	return twoAgain(s.Kind, a, b), rest
}

func twoAgain(k api.StepKind, a, b any) any {
	switch k {
	case api.StepAnd, api.StepOr:
		if stops := k == api.StepOr; a == stops || b == stops {
			return stops
		}
	}
	if a == nil || b == nil {
		return nil
	}
	switch k {
	case api.StepAnd, api.StepOr:
		return k == api.StepAnd
	case api.StepAdd, api.StepSub, api.StepMul:
		do := map[api.StepKind]func(z, x, y *big.Int) *big.Int{api.StepAdd: (*big.Int).Add, api.StepSub: (*big.Int).Sub, api.StepMul: (*big.Int).Mul}[k]
		return told(do(new(big.Int), big.NewInt(a.(int64)), big.NewInt(b.(int64))))
	case api.StepEqual:
		return a == b
	case api.StepUnlike:
		return a != b
	case api.StepLess:
		return below(a, b)
	case api.StepMost:
		return !below(b, a)
	case api.StepMore:
		return below(b, a)
	}
	return !below(a, b)
}

func below(a, b any) bool {
	switch x := a.(type) {
	case bool:
		return !x && b.(bool)
	case int64:
		return x < b.(int64)
	}
	return a.(string) < b.(string) // of UTF-8 the order by bytes is that by runes
}

func told(n *big.Int) any {
	if n.IsInt64() {
		return n.Int64()
	}
	return nil
}

func bare(v api.Value) any {
	switch v.Kind {
	case api.KindBool:
		return v.B
	case api.KindInt:
		return v.N
	case api.KindText:
		return v.S
	}
	return nil
}

func dressed(v any) api.Value {
	switch x := v.(type) {
	case bool:
		return boolean(x)
	case int64:
		return whole(x)
	case string:
		return text(x)
	}
	return null()
}

func find(name string, l []api.Table) api.Table {
	for _, t := range l {
		if t.Name == name {
			return t
		}
	}
	return api.Table{}
}

// columnsOf are all columns of a query, one table's behind the other's.
func columnsOf(b api.Bound, l []api.Table) []api.Col {
	return slices.Concat(find(b.Table, l).Cols, find(b.Join, l).Cols)
}

// rowsAgain are the rows of a query: all pairs, of which most are left out.
func rowsAgain(b api.Bound, l []api.Table) (rows []api.Row) {
	second := []api.Row{nil}
	if b.Join != "" {
		second = find(b.Join, l).Rows
	}
	for _, r := range find(b.Table, l).Rows {
		for _, q := range second {
			row := slices.Concat(r, q)
			if b.Join != "" && (row[b.Left] == null() || row[b.Left] != row[b.Width+b.Right]) {
				continue
			}
			if len(b.Where) > 0 {
				if v, _ := evalAgain(b.Where, row); v != true {
					continue
				}
			}
			rows = append(rows, row)
		}
	}
	return rows
}

// runAgain is a query's answer: the document's words, said in another way.
func runAgain(b api.Bound, l []api.Table) []api.Row {
	rows := rowsAgain(b, l)
	parts := map[string][]api.Row{}
	if b.Grouped && len(b.Group) == 0 {
		parts[""] = nil
	}
	for i, r := range rows {
		key := fmt.Sprint(i)
		if b.Grouped {
			key = ""
			for _, c := range b.Group {
				key += fmt.Sprintf("%#v,", r[c])
			}
		}
		parts[key] = append(parts[key], r)
	}
	var out []api.Row
	for _, part := range parts {
		var row api.Row
		for _, item := range b.Items {
			row = append(row, dressed(itemAgain(item, part)))
		}
		out = append(out, row)
	}
	slices.SortFunc(out, value.CompareRows)
	return out
}

func itemAgain(item api.Item, rows []api.Row) any {
	if item.Agg == api.AggCount {
		return int64(len(rows))
	}
	sum, n := new(big.Int), 0
	var best any
	for _, r := range rows {
		v, _ := evalAgain(item.Expr, r)
		if item.Agg == api.AggNone {
			return v
		}
		if v == nil {
			continue
		}
		if x, ok := v.(int64); ok {
			sum.Add(sum, big.NewInt(x))
		}
		if n++; n == 1 || item.Agg == api.AggMin && below(v, best) || item.Agg == api.AggMax && below(best, v) {
			best = v
		}
	}
	if item.Agg == api.AggSum && n > 0 {
		return told(sum)
	}
	return best
}

func randomValue(d *rand.Rand, k api.Kind) api.Value {
	if d.IntN(5) == 0 {
		return null()
	}
	switch k {
	case api.KindBool:
		return boolean(d.IntN(2) == 0)
	case api.KindInt:
		return whole(pick[int64](d, -1, 0, 1, 1, 2, 3, math.MaxInt64, math.MaxInt64-1, math.MinInt64, math.MinInt64+1, 1<<62))
	case api.KindText:
		return text(pick(d, "", "a", "b", "é", "aé", "日本", strings.Repeat("é", 128)))
	}
	return null()
}

func randomRow(d *rand.Rand, cols []api.Col) (r api.Row) {
	for _, c := range cols {
		r = append(r, randomValue(d, c.Kind))
	}
	return r
}

// randomTables are t and u, with columns of all kinds.
func randomTables(d *rand.Rand) []api.Table {
	l := []api.Table{
		{Name: "t", Cols: []api.Col{column("a", api.KindInt), column("s", api.KindText), column("b", api.KindBool)}},
		{Name: "u", Cols: []api.Col{column("c", api.KindBool), column("x", api.KindInt), column("y", api.KindText), column("z", api.KindInt)}},
	}
	for i := range l {
		for range pick(d, 0, 1, 2, 5, 8, 12) {
			l[i].Rows = append(l[i].Rows, randomRow(d, l[i].Cols))
		}
	}
	return l
}

// randomExpr is an expression of some n steps that has that kind, or is null, of columns with those names.
func randomExpr(d *rand.Rand, n int, k api.Kind, cols []api.Col) []api.Step {
	if n <= 1 || k == api.KindText || k == api.KindNull {
		var may []api.Step
		for _, c := range cols {
			if c.Kind == k {
				may = append(may, col(c.Name), col(c.Name))
			}
		}
		return steps(pick(d, append(may, put(randomValue(d, k)))...))
	}
	kind, takes := k, 2
	var last api.StepKind
	if k == api.KindInt {
		last = pick(d, api.StepAdd, api.StepSub, api.StepMul, api.StepNeg, api.StepLength)
	} else {
		last = pick(d, api.StepAnd, api.StepOr, api.StepNot, api.StepIsNull, api.StepEqual+api.StepKind(d.IntN(6)))
	}
	switch last {
	case api.StepNeg, api.StepNot, api.StepLength, api.StepIsNull:
		takes = 1
	}
	switch {
	case last == api.StepLength:
		kind = api.KindText
	case last == api.StepIsNull || last >= api.StepEqual && last <= api.StepLeast:
		kind = pick(d, api.KindBool, api.KindInt, api.KindText)
	}
	if takes == 1 {
		return append(randomExpr(d, n-1, kind, cols), op(last))
	}
	left := 1 + d.IntN(max(1, n-2))
	return slices.Concat(randomExpr(d, left, kind, cols), randomExpr(d, n-1-left, kind, cols), steps(op(last)))
}

// randomQuery is one of the tables t and u that can be bound.
func randomQuery(d *rand.Rand, l []api.Table) api.Query {
	q := api.Query{Table: pick(d, "t", "u")}
	cols := find(q.Table, l).Cols
	if d.IntN(3) == 0 {
		q.Join = map[string]string{"t": "u", "u": "t"}[q.Table]
		two := pick(d, []string{"a", "x"}, []string{"a", "z"}, []string{"s", "y"}, []string{"b", "c"})
		q.Left, q.Right = two[0], two[1]
		cols = slices.Concat(cols, find(q.Join, l).Cols)
	}
	if d.IntN(2) == 0 {
		q.Where = randomExpr(d, 1+d.IntN(8), api.KindBool, cols)
	}
	var may []api.Item
	for range d.IntN(4) {
		may = append(may, api.Item{Expr: randomExpr(d, 1+d.IntN(6), pick(d, api.KindBool, api.KindInt, api.KindText), cols)})
	}
	if d.IntN(3) > 0 {
		for i := range may {
			may[i].Agg = pick(d, api.AggMin, api.AggMax)
		}
		may = append(may, api.Item{Agg: api.AggCount}, api.Item{Agg: api.AggSum, Expr: randomExpr(d, 1+d.IntN(3), api.KindInt, cols)})
		for _, c := range cols {
			if len(q.Group) < 3 && d.IntN(3) == 0 {
				q.Group = append(q.Group, c.Name)
				may = append(may, api.Item{Expr: steps(col(c.Name))})
			}
		}
	}
	q.Items = may
	return q
}

func mustBind(t *testing.T, q api.Query, l []api.Table) api.Bound {
	t.Helper()
	b, why := bind.Bind(q, l)
	if why != api.OK {
		t.Fatalf("Bind(%+v): error %d", q, why)
	}
	return b
}

func mustRun(t *testing.T, b api.Bound, l []api.Table) []api.Row {
	t.Helper()
	rows, why := algebra.Run(b, l)
	if why != api.OK {
		t.Fatalf("Run(%+v): error %d", b, why)
	}
	return rows
}

// same tells whether two answers are alike, row by row, value by value.
func same(a, b []api.Row) bool {
	return slices.EqualFunc(a, b, func(x, y api.Row) bool { return slices.Equal(x, y) })
}

func TestEvalAgain(t *testing.T) { // 5.1, 5.3
	d := dice()
	known := 0
	for range 30000 {
		l := randomTables(d)
		k := pick(d, api.KindBool, api.KindInt)
		b := mustBind(t, api.Query{Table: "t", Join: "u", Left: "a", Right: "x", Items: []api.Item{{Expr: randomExpr(d, 1+d.IntN(20), k, slices.Concat(l[0].Cols, l[1].Cols))}}}, l)
		cols := columnsOf(b, l)
		row := randomRow(d, cols)
		expr := b.Items[0].Expr
		v, why := algebra.Eval(expr, row, cols)
		want, _ := evalAgain(expr, row)
		if v != dressed(want) || why != api.OK {
			t.Fatalf("Eval(%v, %v) = %v, error %d; not %v", expr, row, v, why, want)
		}
		kind, _ := bind.Kind(expr, cols)
		if value.Check(v) != api.OK || v != null() && v.Kind != kind {
			t.Fatalf("Eval(%v, %v) = %v, which is not of kind %d", expr, row, v, kind)
		}
		if v != null() {
			known++
		}
	}
	if known < 10000 {
		t.Error("too few are not null:", known)
	}
}

func TestRunAgain(t *testing.T) { // 5.1, 5.3, P3
	d := dice()
	some := 0
	for range 8000 {
		l := randomTables(d)
		b := mustBind(t, randomQuery(d, l), l)
		rows := mustRun(t, b, l)
		if want := runAgain(b, l); !same(rows, want) {
			t.Fatalf("Run(%+v, %v) = %v; not %v", b, l, rows, want)
		}
		if !same(rows, mustRun(t, b, l)) {
			t.Fatalf("Run(%+v) is another one the next time", b)
		}
		var cols []api.Col
		for i, name := range b.Names {
			cols = append(cols, column(name, b.Kinds[i]))
		}
		for _, r := range rows {
			if why := value.CheckRow(r, cols); why != api.OK {
				t.Fatalf("Run(%+v): the row %v is not right of %v: error %d", b, r, cols, why)
			}
		}
		if !slices.IsSortedFunc(rows, value.CompareRows) {
			t.Fatalf("Run(%+v) = %v is not in order", b, rows)
		}
		if len(rows) > 1 {
			some++
		}
	}
	if some < 1000 {
		t.Error("too few have rows:", some)
	}
}

func TestSameBagsHaveTheSameAnswers(t *testing.T) { // 5.4
	d := dice()
	for range 2000 {
		l := randomTables(d)
		b := mustBind(t, randomQuery(d, l), l)
		rows := mustRun(t, b, l)
		for i := range l {
			d.Shuffle(len(l[i].Rows), func(x, y int) { l[i].Rows[x], l[i].Rows[y] = l[i].Rows[y], l[i].Rows[x] })
		}
		l[0], l[1] = l[1], l[0]
		if mixed := mustRun(t, b, l); !same(rows, mixed) {
			t.Fatalf("Run(%+v, %v) = %v; and %v in another order", b, l, mixed, rows)
		}
	}
}

func TestPartsHaveAllAnswersTogether(t *testing.T) { // 5.5
	d := dice()
	n := 0
	for range 4000 {
		l := randomTables(d)
		q := randomQuery(d, l)
		b := mustBind(t, q, l)
		if b.Grouped || b.Join != "" {
			continue
		}
		n++
		i := slices.IndexFunc(l, func(t api.Table) bool { return t.Name == q.Table })
		rows := mustRun(t, b, l)
		all := l[i].Rows
		var parts [2][]api.Row
		for _, r := range all {
			half := d.IntN(2)
			parts[half] = append(parts[half], r)
		}
		l[i].Rows = parts[0]
		first := mustRun(t, b, l)
		l[i].Rows = parts[1]
		second := mustRun(t, b, l)
		if !same(rows, value.Sort(append(first, second...))) {
			t.Fatalf("Run(%+v, %v) = %v; in parts %v and %v", b, all, rows, first, second)
		}
	}
	if n < 500 {
		t.Error("too few:", n)
	}
}

func TestCountsOfGroups(t *testing.T) { // 5.6
	d := dice()
	n := 0
	for range 4000 {
		l := randomTables(d)
		q := randomQuery(d, l)
		if len(q.Group) == 0 {
			continue
		}
		n++
		q.Items = []api.Item{{Agg: api.AggCount}}
		sum := int64(0)
		for _, r := range mustRun(t, mustBind(t, q, l), l) {
			if r[0].Kind != api.KindInt || r[0].N < 1 {
				t.Fatal("a group of no rows:", r)
			}
			sum += r[0].N
		}
		q.Group = nil
		whole := mustRun(t, mustBind(t, q, l), l)
		q.Items = []api.Item{{Expr: steps(op(api.StepTrue))}}
		rows := mustRun(t, mustBind(t, q, l), l)
		if len(whole) != 1 || whole[0][0].N != sum || int64(len(rows)) != sum {
			t.Fatalf("%+v: counts %d of groups, %v of all, %d rows", q, sum, whole, len(rows))
		}
	}
	if n < 500 {
		t.Error("too few:", n)
	}
}

// within tells whether a's bytes lie in b's memory.
func within(a, b string) bool {
	if a == "" || b == "" {
		return false
	}
	x, y := uintptr(unsafe.Pointer(unsafe.StringData(a))), uintptr(unsafe.Pointer(unsafe.StringData(b)))
	return x >= y && x < y+uintptr(len(b))
}

func TestNewMemory(t *testing.T) { // 5.2
	name, constant := strings.Clone("of a row"), strings.Clone("of an expression")
	l := []api.Table{{Name: "t", Cols: []api.Col{column("s", api.KindText)}, Rows: []api.Row{{text(name)}, {text(name)}}}}
	both := []api.Item{{Expr: steps(col("s"))}, {Expr: steps(put(text(constant)))}}
	grouped := []api.Item{{Expr: steps(col("s"))}, {Agg: api.AggMin, Expr: steps(col("s"))}, {Agg: api.AggMax, Expr: steps(put(text(constant)))}}
	for _, q := range []api.Query{{Table: "t"}, {Table: "t", Items: both}, {Table: "t", Items: grouped, Group: []string{"s"}}} {
		b := mustBind(t, q, l)
		rows, again := mustRun(t, b, l), mustRun(t, b, l)
		for _, r := range rows {
			for _, v := range r {
				for _, item := range b.Items {
					if within(v.S, name) || len(item.Expr) > 0 && within(v.S, item.Expr[0].Text) {
						t.Errorf("%q lies in what was handed in", v.S)
					}
				}
			}
		}
		for i := range rows {
			_ = append(rows[i], whole(1))
			for k := range rows[i] {
				rows[i][k] = whole(9)
			}
			if i+1 < len(rows) && rows[i+1][0] != text(name) {
				t.Error("rows of an answer share memory")
			}
		}
		if third := mustRun(t, b, l); !same(again, third) || l[0].Rows[0][0] != text(name) {
			t.Error("an answer shares memory with an earlier one, or with what was handed in")
		}
	}
	for _, expr := range [][]api.Step{steps(at(0)), steps(put(text(constant)))} {
		if v, _ := algebra.Eval(expr, l[0].Rows[0], l[0].Cols); v.S == "" || within(v.S, name) || within(v.S, constant) {
			t.Errorf("%q lies in what was handed in", v.S)
		}
	}
}

// withRoom is a copy of a list with something behind it, which nobody may write to.
func withRoom[T any](l []T, behind T) []T {
	return append(slices.Clone(l), behind, behind)[:len(l)]
}

func TestNothingIsChanged(t *testing.T) { // 5.2
	d := dice()
	for range 1000 {
		l := randomTables(d)
		b := mustBind(t, randomQuery(d, l), l)
		mark := api.Row{text("behind")}
		roomy := func() ([]api.Table, api.Bound) {
			tables := slices.Clone(l)
			for i := range tables {
				tables[i].Rows = withRoom(tables[i].Rows, mark)
				for k, r := range tables[i].Rows {
					tables[i].Rows[k] = withRoom(r, mark[0])
				}
				tables[i].Cols = withRoom(tables[i].Cols, column("behind", 7))
			}
			c := b
			c.Group, c.Where, c.Items = withRoom(b.Group, 77), withRoom(b.Where, op(77)), withRoom(b.Items, api.Item{Agg: 77})
			return tables, c
		}
		whole := func(l []api.Table, b api.Bound) string {
			var s strings.Builder
			for _, t := range l {
				fmt.Fprint(&s, t.Name, t.Cols[:len(t.Cols)+2], len(t.Rows), t.Rows[:len(t.Rows)+2])
				for _, r := range t.Rows {
					fmt.Fprint(&s, r[:len(r)+2])
				}
			}
			return s.String() + fmt.Sprint(b, b.Group[:len(b.Group)+2], b.Where[:len(b.Where)+2], b.Items[:len(b.Items)+2])
		}
		given, c := roomy()
		before := whole(given, c)
		rows := mustRun(t, c, given)
		if whole(given, c) != before {
			t.Fatalf("Run(%+v) changes what is handed in", b)
		}
		for i := range given {
			for _, r := range given[i].Rows {
				clear(r)
				for k := range r {
					r[k] = text("changed")
				}
			}
		}
		if !same(rows, mustRun(t, b, l)) {
			t.Fatalf("the answer of Run(%+v) hangs on what became of an argument", b)
		}
	}
}

func randomSteps(d *rand.Rand) []api.Step {
	l := make([]api.Step, pick(d, 0, 1, 1, 2, 3, 3, 64, 65, 300))
	for i := range l {
		l[i] = api.Step{Kind: api.StepKind(d.IntN(int(api.StepCount) + 2))}
		if d.IntN(4) == 0 {
			l[i].Text, l[i].N = pick(d, "", "a", "t.a", "\xff", strings.Repeat("a", 300)), pick[int64](d, 0, 1, -1, 2, 3, 16, math.MaxInt64, math.MinInt64)
		}
	}
	return l
}

func randomOddRow(d *rand.Rand) api.Row {
	r := make(api.Row, pick(d, 0, 1, 2, 3, 16, 17))
	for i := range r {
		r[i] = pick(d, null(), whole(1), text("a"), boolean(true), text("\xff"), text(strings.Repeat("a", 257)), api.Value{Kind: api.Kind(d.IntN(256)), N: 1}, api.Value{N: 1})
	}
	return r
}

func TestAnything(t *testing.T) { // P1, P2, P3, P4
	before := runtime.NumGoroutine()
	d := dice()
	good := 0
	for range 20000 {
		cols := make([]api.Col, pick(d, 0, 1, 2, 3, 16, 17))
		for i := range cols {
			cols[i] = column("a", api.Kind(d.IntN(6)))
		}
		l, row := randomSteps(d), randomOddRow(d)
		if d.IntN(2) == 0 {
			row = make(api.Row, len(cols))
		}
		v, why := algebra.Eval(l, row, cols)
		_, want := bind.Kind(l, cols)
		if want == api.OK {
			want = value.CheckRow(row, cols)
		}
		if why != want || why != api.OK && v != null() {
			t.Fatalf("Eval(%v, %v, %v) = %v, error %d; not %d", l, row, cols, v, why, want)
		}
		if why == api.OK {
			good++
		}
	}
	if good < 200 {
		t.Error("too few expressions are right:", good)
	}
	anyRun(t, d)
	if n := runtime.NumGoroutine(); n > before { // an earlier test's own may have ended meanwhile
		t.Errorf("%d goroutines, and %d before", n, before)
	}
}

// anyRun asks of bound queries that something is changed in, over tables that something is changed in, too.
func anyRun(t *testing.T, d *rand.Rand) {
	right, wrong := 0, 0
	number := func() int { return pick(d, -1, 0, 1, 2, 3, 4, 8, math.MaxInt, math.MinInt) }
	for range 20000 {
		l := randomTables(d)
		b := mustBind(t, randomQuery(d, l), l)
		i := d.IntN(len(b.Items))
		switch d.IntN(16) {
		case 0:
			l[d.IntN(2)].Rows = []api.Row{randomOddRow(d)}
		case 1:
			l = l[:d.IntN(2)]
		case 2:
			b.Table, b.Join = b.Join, b.Table
		case 3:
			b.Width = number()
		case 4:
			b.Left = number()
		case 5:
			b.Right = number()
		case 6:
			b.Where = randomSteps(d)
		case 7:
			b.Group = append(b.Group, number())
		case 8:
			b.Group = nil
		case 9:
			b.Grouped = !b.Grouped
		case 10:
			b.Items[i].Agg = api.AggKind(d.IntN(7))
		case 11:
			b.Items[i].Expr = randomSteps(d)
		case 12:
			b.Kinds[i] = api.Kind(d.IntN(5))
		case 13:
			b = api.Bound{Items: make([]api.Item, d.IntN(10)), Grouped: true}
		case 14:
			l[0].Cols, l[1].Cols = l[1].Cols, l[0].Cols
		}
		want := api.OK
		if !bind.Right(b, l) || slices.ContainsFunc(l, func(t api.Table) bool { return value.CheckTable(t) != api.OK }) {
			want = api.ErrState
		}
		rows, why := algebra.Run(b, l)
		if why != want || why != api.OK && len(rows) > 0 {
			t.Fatalf("Run(%+v, %v) = %v, error %d; not %d", b, l, rows, why, want)
		}
		if why == api.OK {
			right++
			if !same(rows, runAgain(b, l)) {
				t.Fatalf("Run(%+v, %v) = %v; not %v", b, l, rows, runAgain(b, l))
			}
		} else {
			wrong++
		}
	}
	if right < 1000 || wrong < 1000 {
		t.Errorf("%d are right, and %d are not", right, wrong)
	}
}

func TestNilAndEmptyAreAlike(t *testing.T) { // P1
	cols := []api.Col{column("a", api.KindInt)}
	none := api.Bound{Table: "t", Items: []api.Item{{Agg: api.AggCount}}, Grouped: true, Names: []string{"c1"}, Kinds: []api.Kind{api.KindInt}}
	empty := none
	empty.Where, empty.Group, empty.Items = []api.Step{}, []int{}, []api.Item{{Agg: api.AggCount, Expr: []api.Step{}}}
	for _, b := range []api.Bound{none, empty} {
		for _, rows := range [][]api.Row{nil, {}} {
			if got, why := algebra.Run(b, []api.Table{{Name: "t", Cols: cols, Rows: rows}}); why != api.OK || !reflect.DeepEqual(got, []api.Row{{whole(0)}}) {
				t.Error("Run:", got, why)
			}
		}
		for _, l := range [][]api.Table{nil, {}} {
			if got, why := algebra.Run(b, l); why != api.ErrState || len(got) != 0 {
				t.Error("Run:", got, why)
			}
		}
	}
	for _, l := range [][]api.Step{nil, {}} {
		if v, why := algebra.Eval(l, nil, nil); why != api.ErrSyntax || v != null() {
			t.Error("Eval:", v, why)
		}
	}
}
