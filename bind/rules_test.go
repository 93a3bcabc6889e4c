package bind_test

import (
	"math/rand/v2"
	"reflect"
	"runtime"
	"slices"
	"strconv"
	"strings"
	"testing"
	"unsafe"

	"potsherd/api"
	"potsherd/bind"
	"potsherd/parse"
)

// dice are the same ones each time.
func dice() *rand.Rand { return rand.New(rand.NewPCG(4, 7)) }

func pick[T any](d *rand.Rand, l ...T) T { return l[d.IntN(len(l))] }

// kindAgain is the kind of the expression that ends l, from its end on, and what is ahead of it; false, if something is not as it must be.
func kindAgain(l []api.Step, cols []api.Col) (api.Kind, []api.Step, bool) {
	s, rest := l[len(l)-1], l[:len(l)-1]
	is := func(k api.Kind, may ...api.Kind) bool { return k == api.KindNull || slices.Contains(may, k) }
	switch s.Kind {
	case api.StepNull:
		return api.KindNull, rest, true
	case api.StepTrue, api.StepFalse:
		return api.KindBool, rest, true
	case api.StepInt:
		return api.KindInt, rest, true
	case api.StepText:
		return api.KindText, rest, true
	case api.StepCol:
		return cols[s.N].Kind, rest, true
	}
	a, rest, ok := kindAgain(rest, cols)
	switch s.Kind {
	case api.StepNeg:
		return api.KindInt, rest, ok && is(a, api.KindInt)
	case api.StepNot:
		return api.KindBool, rest, ok && is(a, api.KindBool)
	case api.StepIsNull:
		return api.KindBool, rest, ok
	case api.StepLength:
		return api.KindInt, rest, ok && is(a, api.KindText)
	}
	b, rest, fine := kindAgain(rest, cols)
	ok = ok && fine
	switch {
	case s.Kind <= api.StepMul:
		return api.KindInt, rest, ok && is(a, api.KindInt) && is(b, api.KindInt)
	case s.Kind >= api.StepAnd:
		return api.KindBool, rest, ok && is(a, api.KindBool) && is(b, api.KindBool)
	}
	return api.KindBool, rest, ok && (is(a, b) || b == api.KindNull)
}

// again binds by names that all have their tables ahead: the document's words, said in another way.
type again struct {
	cols []api.Col
	full []string       // each column's name with its table ahead
	by   map[string]int // the place of each text that is one column's, -1 of those that are several columns'
}

func scopeAgain(l ...api.Table) again {
	a := again{by: map[string]int{}}
	for _, t := range l {
		for _, c := range t.Cols {
			place := len(a.cols)
			a.cols, a.full = append(a.cols, c), append(a.full, t.Name+"."+c.Name)
			a.by[t.Name+"."+c.Name] = place
			if _, there := a.by[c.Name]; there {
				place = -1
			}
			a.by[c.Name] = place
		}
	}
	return a
}

func (a again) place(s string) (int, api.Errno) {
	if n, ok := a.by[s]; ok && n >= 0 {
		return n, api.OK
	}
	return 0, api.ErrName
}

func (a again) expr(l []api.Step) ([]api.Step, api.Kind, api.Errno) {
	l = slices.Clone(l)
	for i, s := range l {
		if s.Kind == api.StepCol {
			n, why := a.place(s.Text)
			if why != api.OK {
				return nil, 0, why
			}
			l[i] = at(int64(n))
		}
	}
	k, _, ok := kindAgain(l, a.cols)
	if !ok {
		return nil, 0, api.ErrType
	}
	return l, k, api.OK
}

func tableAgain(name string, l []api.Table) []api.Table {
	return slices.DeleteFunc(slices.Clone(l), func(t api.Table) bool { return t.Name != name })
}

// bindAgain binds a right query by a right catalog.
func bindAgain(q api.Query, l []api.Table) (api.Bound, api.Errno) {
	first, second := tableAgain(q.Table, l), tableAgain(q.Join, l)
	if len(first) == 0 || q.Join != "" && len(second) == 0 {
		return api.Bound{}, api.ErrName
	}
	a := scopeAgain(append(first, second...)...)
	b := api.Bound{Table: q.Table, Join: q.Join}
	if q.Join != "" {
		b.Width = len(first[0].Cols)
		x, why := a.place(q.Left)
		y, how := a.place(q.Right)
		switch {
		case why != api.OK || how != api.OK:
			return api.Bound{}, api.ErrName
		case (x < b.Width) == (y < b.Width) || a.cols[x].Kind != a.cols[y].Kind:
			return api.Bound{}, api.ErrType
		case x < y:
			b.Left, b.Right = x, y-b.Width
		default:
			b.Left, b.Right = y, x-b.Width
		}
	}
	if len(q.Where) > 0 {
		where, k, why := a.expr(q.Where)
		if why == api.OK && k > api.KindBool {
			why = api.ErrType
		}
		if why != api.OK {
			return api.Bound{}, why
		}
		b.Where = where
	}
	for _, s := range q.Group {
		n, why := a.place(s)
		if why != api.OK {
			return api.Bound{}, why
		}
		for _, m := range b.Group {
			if m == n {
				return api.Bound{}, api.ErrTwice
			}
		}
		b.Group = append(b.Group, n)
	}
	b.Grouped = len(q.Group) > 0
	for _, item := range q.Items {
		b.Grouped = b.Grouped || item.Agg != api.AggNone
	}
	if len(q.Items) == 0 {
		if len(a.cols) > api.MaxItems {
			return api.Bound{}, api.ErrMany
		}
		for _, s := range a.full {
			q.Items = append(q.Items, plain(col(s)))
		}
	}
	for i, item := range q.Items {
		name, k := "c"+strconv.Itoa(i+1), api.KindInt
		bound := api.Item{Agg: item.Agg}
		if item.Agg != api.AggCount {
			l, kind, why := a.expr(item.Expr)
			one := len(item.Expr) == 1 && item.Expr[0].Kind == api.StepCol && item.Agg == api.AggNone
			switch {
			case why != api.OK:
				return api.Bound{}, why
			case item.Agg == api.AggSum && kind != api.KindInt && kind != api.KindNull:
				return api.Bound{}, api.ErrType
			case item.Agg == api.AggNone && b.Grouped && (!one || !slices.Contains(b.Group, int(l[0].N))):
				return api.Bound{}, api.ErrName
			case item.Agg != api.AggSum:
				k = kind
			}
			bound.Expr = l
			if one {
				name = a.cols[l[0].N].Name
			}
		}
		b.Items, b.Names, b.Kinds = append(b.Items, bound), append(b.Names, name), append(b.Kinds, k)
	}
	return b, api.OK
}

func randomColumn(d *rand.Rand) string {
	return pick(d, "k", "s", "b", "x", "y", "t.k", "t.s", "t.b", "u.s", "u.k", "u.x", "u.y", "k", "x", "t.k", "u.x", "z", "v.c1")
}

// randomExpr is a right expression of some n steps, mostly of that kind.
func randomExpr(d *rand.Rand, n int, k api.Kind) []api.Step {
	if d.IntN(30) == 0 {
		k = api.Kind(d.IntN(4))
	}
	if n <= 1 || k == api.KindText {
		switch {
		case d.IntN(8) == 0:
			return steps(op(api.StepNull))
		case k == api.KindBool:
			return steps(pick(d, op(api.StepTrue), op(api.StepFalse), col("b"), col("t.b")))
		case k == api.KindInt:
			return steps(pick(d, whole(-3), col("k"), col("t.k"), col("x"), col("u.x")))
		}
		return steps(pick(d, text("é"), text(""), col("s"), col("t.s"), col("y"), col("u.y"), col("z")))
	}
	left := 1 + d.IntN(max(1, n-2))
	two := func(k api.Kind, s api.StepKind) []api.Step {
		return slices.Concat(randomExpr(d, left, k), randomExpr(d, n-1-left, k), steps(op(s)))
	}
	one := func(k api.Kind, s api.StepKind) []api.Step { return append(randomExpr(d, n-1, k), op(s)) }
	if k == api.KindInt {
		return pick(d, two(k, api.StepAdd), two(k, api.StepSub), two(k, api.StepMul), one(k, api.StepNeg), one(api.KindText, api.StepLength))
	}
	any := api.Kind(d.IntN(4))
	return pick(d, two(any, api.StepEqual+api.StepKind(d.IntN(6))), two(k, pick(d, api.StepAnd, api.StepOr)), one(k, api.StepNot), one(any, api.StepIsNull))
}

func randomQuery(d *rand.Rand) api.Query {
	q := api.Query{Table: pick(d, "t", "t", "t", "t", "u", "v", "z")}
	if q.Join = pick(d, "", "", "u", "u", "u", "t", "v", "z"); q.Join == q.Table {
		q.Join = ""
	}
	if q.Join != "" {
		q.Left, q.Right = randomColumn(d), randomColumn(d)
		if d.IntN(2) == 0 {
			q.Left, q.Right = "t.k", "u.x"
		}
	}
	if d.IntN(2) == 0 {
		q.Where = randomExpr(d, 1+d.IntN(8), api.KindBool)
	}
	for range d.IntN(4) {
		item := api.Item{Agg: api.AggKind(d.IntN(int(api.AggEnd))), Expr: randomExpr(d, 1+d.IntN(4), pick(d, api.KindInt, api.KindInt, api.KindBool, api.KindText))}
		if item.Agg == api.AggCount {
			item.Expr = nil
		}
		q.Items = append(q.Items, item)
	}
	for range d.IntN(3) {
		if len(q.Items) > 0 {
			q.Group = append(q.Group, randomColumn(d))
			q.Items = append(q.Items, plain(col(q.Group[0])))
		}
	}
	return q
}

// unbind is a query whose names all have their tables ahead, and which is bound as b, if b is right; false, if a place is none.
func unbind(b api.Bound, l []api.Table) (api.Query, bool) {
	q := api.Query{Table: b.Table, Join: b.Join}
	first, second := tableAgain(b.Table, l), tableAgain(b.Join, l)
	if len(first) == 0 {
		return q, false
	}
	full := scopeAgain(append(first, second...)...).full
	ok := true
	name := func(n int) string {
		if n < 0 || n >= len(full) {
			ok = false
			return ""
		}
		return full[n]
	}
	expr := func(l []api.Step) (out []api.Step) {
		for _, s := range l {
			if s.Kind == api.StepCol {
				ok = ok && s.Text == ""
				s = col(name(int(s.N)))
			}
			out = append(out, s)
		}
		return out
	}
	if b.Join != "" {
		q.Left, q.Right = name(b.Left), name(len(first[0].Cols)+b.Right)
	}
	q.Where = expr(b.Where)
	for _, n := range b.Group {
		q.Group = append(q.Group, name(n))
	}
	for _, item := range b.Items {
		q.Items = append(q.Items, api.Item{Agg: item.Agg, Expr: expr(item.Expr)})
	}
	return q, ok && len(b.Items) > 0
}

func TestBoundAgain(t *testing.T) { // 4.2, 4.4, P2, P3
	d := dice()
	seen := map[api.Errno]int{}
	for range 30000 {
		q := randomQuery(d)
		if why := parse.Check(q); why != api.OK {
			t.Fatalf("%+v is no query", q)
		}
		b, why := bind.Bind(q, catalog())
		want, how := bindAgain(q, catalog())
		if why != how || !reflect.DeepEqual(b, want) {
			t.Fatalf("Bind(%+v) = %+v, error %d; not %+v, error %d", q, b, why, want, how)
		}
		if c, how := bind.Bind(q, catalog()); how != why || !reflect.DeepEqual(b, c) {
			t.Fatalf("Bind(%+v) is another one the next time", q)
		}
		if bind.Right(b, catalog()) != (why == api.OK) {
			t.Fatalf("Bind(%+v) = %+v, error %d, and Right tells otherwise", q, b, why)
		}
		seen[why]++
	}
	for _, why := range []api.Errno{api.OK, api.ErrName, api.ErrType, api.ErrTwice, api.ErrMany} {
		if seen[why] < 10 {
			t.Errorf("error %d only %d times", why, seen[why])
		}
	}
}

func TestNamesWithTablesAhead(t *testing.T) { // 4.4, 4.5
	d := dice()
	n := 0
	for range 20000 {
		b, why := bind.Bind(randomQuery(d), catalog())
		if why != api.OK {
			continue
		}
		n++
		q, ok := unbind(b, catalog())
		if !ok {
			t.Fatalf("places of %+v are none", b)
		}
		if c, why := bind.Bind(q, catalog()); why != api.OK || !reflect.DeepEqual(b, c) {
			t.Fatalf("Bind(%+v) = %+v, error %d; not %+v", q, c, why, b)
		}
		cols := scopeAgain(append(tableAgain(b.Table, catalog()), tableAgain(b.Join, catalog())...)...).cols
		for i, item := range b.Items {
			if k, why := bind.Kind(item.Expr, cols); item.Agg != api.AggCount && (why != api.OK || item.Agg != api.AggSum && k != b.Kinds[i]) {
				t.Fatalf("Kind of the item %d of %+v: %d, error %d", i, b, k, why)
			}
		}
	}
	if n < 1000 {
		t.Error("too few:", n)
	}
}

// changed is b with something changed.
func changed(d *rand.Rand, b api.Bound) api.Bound {
	b = copyOf(b)
	number := func() int { return pick(d, -1, 0, 1, 2, 3, 4, 5, 6, 7, 8) }
	expr := func(l []api.Step) []api.Step {
		if len(l) == 0 || d.IntN(4) == 0 {
			return append(l, pick(d, at(int64(number())), op(api.StepKind(d.IntN(int(api.StepCount)))), op(api.StepNot), op(api.StepIsNull)))
		}
		i := d.IntN(len(l))
		l[i] = pick(d, at(int64(number())), api.Step{Kind: api.StepKind(d.IntN(int(api.StepCount))), Text: l[i].Text, N: l[i].N})
		return l
	}
	i := d.IntN(len(b.Items))
	switch d.IntN(15) {
	case 0:
		b.Table = pick(d, "t", "u", "v", "z", "")
	case 1:
		b.Join = pick(d, "t", "u", "v", "z", "")
	case 2:
		b.Width = number()
	case 3:
		b.Left = number()
	case 4:
		b.Right = number()
	case 5, 6:
		b.Where = expr(b.Where)
	case 7, 8:
		b.Group = append(b.Group, number())
	case 9:
		b.Group = nil
	case 10:
		b.Grouped = !b.Grouped
	case 11:
		b.Items[i].Agg = api.AggKind(d.IntN(int(api.AggEnd) + 1))
	case 12:
		b.Items[i].Expr = expr(b.Items[i].Expr)
	case 13:
		b.Names[i] = pick(d, "k", "s", "b", "c1", "c2", "c3")
	case 14:
		b.Kinds[i] = api.Kind(d.IntN(5))
	}
	return b
}

// plainLists makes empty lists nil, so that reflect holds them for alike.
func plainLists(b api.Bound) api.Bound {
	b = copyOf(b)
	b.Where, b.Group = append([]api.Step(nil), b.Where...), append([]int(nil), b.Group...)
	for i := range b.Items {
		b.Items[i].Expr = append([]api.Step(nil), b.Items[i].Expr...)
	}
	return b
}

func TestRightAgain(t *testing.T) { // 4.2: what is right is what some query is bound as
	d := dice()
	right := 0
	for range 20000 {
		b, why := bind.Bind(randomQuery(d), catalog())
		if why != api.OK {
			continue
		}
		for range 4 {
			for range 1 + d.IntN(2) {
				b = changed(d, b)
			}
			q, ok := unbind(b, catalog())
			c, why := bind.Bind(q, catalog())
			want := ok && why == api.OK && reflect.DeepEqual(plainLists(b), plainLists(c))
			if got := bind.Right(b, catalog()); got != want {
				t.Fatalf("Right(%+v) = %v; but Bind(%+v) = %+v, error %d", b, got, q, c, why)
			}
			if want {
				right++
			}
			b, _ = bind.Bind(randomQuery(d), catalog())
			if len(b.Items) == 0 {
				break
			}
		}
	}
	if right < 300 {
		t.Error("too few are right:", right)
	}
}

// within tells whether a's bytes lie in b's memory.
func within(a, b string) bool {
	if a == "" || b == "" {
		return false
	}
	x, y := uintptr(unsafe.Pointer(unsafe.StringData(a))), uintptr(unsafe.Pointer(unsafe.StringData(b)))
	return x >= y && x < y+uintptr(len(b))
}

func TestNewMemory(t *testing.T) { // 4.3
	name, key, other := strings.Clone("table"), strings.Clone("column"), strings.Clone("other")
	value := strings.Clone("value")
	l := []api.Table{{Name: name, Cols: []api.Col{column(key, api.KindText)}}, {Name: other, Cols: []api.Col{column("of", api.KindText)}}}
	q := api.Query{Table: name, Join: other, Left: key, Right: "of", Where: steps(col(key), text(value), op(api.StepEqual)), Group: []string{key}, Items: items(plain(col(key)), plain(col(key)), api.Item{Agg: api.AggMax, Expr: steps(text(value))})}
	b, why := bind.Bind(q, l)
	again, _ := bind.Bind(q, l)
	if why != api.OK {
		t.Fatal("error", why)
	}
	for _, s := range []string{b.Table, b.Join, b.Where[1].Text, b.Names[0], b.Items[2].Expr[0].Text} {
		if within(s, name) || within(s, key) || within(s, other) || within(s, value) {
			t.Errorf("%q lies in what was handed in", s)
		}
	}
	b.Items[0].Expr[0].N = 7
	if b.Items[1].Expr[0].N != 0 {
		t.Error("two items share memory")
	}
	b.Where[0].N, b.Group[0], b.Names[0], b.Kinds[0], b.Items[2] = 7, 7, "", 0, api.Item{}
	if third, _ := bind.Bind(q, l); !reflect.DeepEqual(again, third) || !bind.Right(again, l) {
		t.Error("an answer shares memory with an earlier one, or with what was handed in")
	}
	all, _ := bind.Bind(api.Query{Table: name}, l)
	if within(all.Names[0], key) {
		t.Error("a name lies in what was handed in")
	}
}

func TestNothingIsChanged(t *testing.T) { // 4.3
	d := dice()
	for range 2000 {
		q := randomQuery(d)
		q.Where, q.Items, q.Group = slices.Grow(q.Where, 9), slices.Grow(q.Items, 9), slices.Grow(q.Group, 9)
		before, _ := parse.Print(q)
		l := catalog()
		for i := range l {
			l[i].Cols = slices.Grow(l[i].Cols, 20)
		}
		b, why := bind.Bind(q, l)
		if after, _ := parse.Print(q); after != before || !reflect.DeepEqual(l, catalog()) {
			t.Fatalf("%q was changed to %q, or the catalog", before, after)
		}
		for _, table := range l {
			for _, c := range table.Cols[len(table.Cols):cap(table.Cols)] {
				if c != (api.Col{}) {
					t.Fatal("something stands behind a list that was handed in:", c)
				}
			}
		}
		if why == api.OK {
			same := copyOf(b)
			bind.Right(b, l)
			bind.Kind(b.Where, l[0].Cols)
			if !reflect.DeepEqual(b, same) || !reflect.DeepEqual(l, catalog()) {
				t.Fatal("what is bound was changed, or the catalog")
			}
		}
	}
}

func TestAnything(t *testing.T) { // P1, P2, P3, P4
	before := runtime.NumGoroutine()
	d := dice()
	texts := []string{"", "a", "t", "u", "t.k", "\xff", "null", strings.Repeat("a", 1<<12), "(", "c1"}
	number := func() int { return pick(d, 0, 0, 1, 2, 3, -1, 8, 1<<63-1, -1<<63) }
	expr := func() []api.Step {
		l := make([]api.Step, pick(d, 0, 1, 1, 2, 3, 64, 65, 200))
		for i := range l {
			l[i] = api.Step{Kind: api.StepKind(d.IntN(int(api.StepCount) + 2)), Text: pick(d, "", "", pick(d, texts...)), N: int64(number())}
		}
		return l
	}
	some := func() []api.Item {
		l := make([]api.Item, d.IntN(10))
		for i := range l {
			l[i] = api.Item{Agg: api.AggKind(d.IntN(8)), Expr: expr()}
		}
		return l
	}
	for range 20000 {
		l := catalog()[:d.IntN(6)]
		for range d.IntN(3) {
			t := api.Table{Name: pick(d, texts...), Cols: make([]api.Col, d.IntN(20))}
			for i := range t.Cols {
				t.Cols[i] = column(pick(d, texts...), api.Kind(d.IntN(6)))
			}
			l = append(l, t)
		}
		why := bind.Check(l)
		q := api.Query{Table: pick(d, texts...), Join: pick(d, texts...), Left: pick(d, texts...), Right: pick(d, texts...), Where: expr(), Group: make([]string, d.IntN(10)), Items: some()}
		if b, how := bind.Bind(q, l); how == api.OK && (why != api.OK || !bind.Right(b, l)) || how != api.OK && !reflect.DeepEqual(b, api.Bound{}) {
			t.Fatalf("Bind(%+v) = %+v, error %d; Check: error %d", q, b, how, why)
		}
		b := api.Bound{Table: pick(d, texts...), Join: pick(d, texts...), Width: number(), Left: number(), Right: number(), Where: expr(), Group: make([]int, d.IntN(10)), Items: some(), Grouped: d.IntN(2) == 0, Names: make([]string, d.IntN(10)), Kinds: make([]api.Kind, d.IntN(10))}
		if bind.Right(b, l) && why != api.OK {
			t.Fatalf("Right(%+v), but Check: error %d", b, why)
		}
		var cols []api.Col
		if len(l) > 0 {
			cols = l[len(l)-1].Cols
		}
		if k, how := bind.Kind(b.Where, cols); how != api.OK && k != 0 {
			t.Fatalf("Kind(%v) = %d, error %d", b.Where, k, how)
		}
	}
	if n := runtime.NumGoroutine(); n > before { // an earlier test's own may have ended meanwhile
		t.Errorf("%d goroutines, and %d before", n, before)
	}
}
