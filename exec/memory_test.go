package exec_test

import (
	"fmt"
	"math"
	"math/rand/v2"
	"runtime"
	"slices"
	"strings"
	"testing"
	"unsafe"

	"potsherd/api"
	"potsherd/bind"
	"potsherd/exec"
	"potsherd/value"
)

// within tells whether a's bytes lie in b's memory.
func within(a, b string) bool {
	if a == "" || b == "" {
		return false
	}
	x, y := uintptr(unsafe.Pointer(unsafe.StringData(a))), uintptr(unsafe.Pointer(unsafe.StringData(b)))
	return x >= y && x < y+uintptr(len(b))
}

// texts are all of some lists of rows.
func texts(lists ...[]api.Row) (l []string) {
	for _, rows := range lists {
		for _, r := range rows {
			for _, v := range r {
				if v.S != "" {
					l = append(l, v.S)
				}
			}
		}
	}
	return l
}

// isApart changes each row of the lists, and what is behind it and behind its list, and tells whether all others stay.
func isApart(lists [][]api.Row) bool {
	shown := func() (l []string) {
		for _, rows := range lists {
			for _, r := range rows {
				l = append(l, fmt.Sprint(r))
			}
		}
		return l
	}
	n := 0
	for _, rows := range lists {
		for i := range rows {
			before := shown()
			_ = append(rows[i], whole(-7), whole(-7), whole(-7))
			for k := range rows[i] {
				rows[i][k] = whole(-8)
			}
			after := shown()
			if !slices.Equal(slices.Delete(before, n, n+1), slices.Delete(after, n, n+1)) {
				return false
			}
			n++
		}
		before := fmt.Sprint(lists)
		_ = append(rows, row(-9), row(-9), row(-9))
		if fmt.Sprint(lists) != before {
			return false
		}
	}
	return true
}

func TestNewMemory(t *testing.T) { // 8.3
	name, constant := strings.Clone("of a row"), strings.Clone("of an expression")
	r, u := row(1, 2, name, true), row(name, 3)
	left, right := []api.Row{r, r, r}, []api.Row{u, u}
	raw := func(table string, by int) api.Frag {
		return api.Frag{Left: api.Src{Table: table}, Raw: true, By: by, To: []int{1, 2, 3}}
	}
	for _, x := range []struct {
		query string
		f     api.Frag
	}{
		{"(from t)", api.Frag{}},
		{"(from t (get s s \"" + constant + "\"))", api.Frag{}},
		{"(from t (group s k) (get s (min s) (max s) s (max \"" + constant + "\")))", api.Frag{}},
		{"(from t (get (min s) (max s)))", api.Frag{}},
		{"(from t (join u s x))", api.Frag{}},
		{"(from t (join u s x) (group x s) (get x (max s) s))", api.Frag{}},
		{"(from t (join u s x))", raw("t", 2)},
		{"(from t (join u s x))", raw("t", -1)},
		{"(from t)", raw("t", 0)},
	} {
		b := bound(t, x.query)
		ask := func() [][]api.Row {
			got, why := exec.Run(b, catalog(), x.f, left, right)
			if why != api.OK || len(texts(got...)) == 0 {
				t.Fatalf("%s: %v, error %d", x.query, got, why)
			}
			return got
		}
		first, again := ask(), ask()
		all := texts(first...)
		for i, a := range all {
			for _, item := range b.Items {
				if within(a, name) || len(item.Expr) > 0 && within(a, item.Expr[0].Text) {
					t.Errorf("%s: %q lies in what was handed in", x.query, a)
				}
			}
			for _, c := range append(all[:i:i], texts(again...)...) {
				if within(a, c) {
					t.Errorf("%s: %q lies in another text of an answer", x.query, a)
				}
			}
		}
		if !isApart(first) {
			t.Errorf("%s: rows of an answer share memory", x.query)
		}
		if !sameLists(again, ask()) || !same(left, []api.Row{r, r, r}) || !slices.Equal(r, row(1, 2, name, true)) || !slices.Equal(u, row(name, 3)) {
			t.Errorf("%s: an answer shares memory with an earlier one, or with what was handed in", x.query)
		}
	}
}

func TestFinishIsNewMemory(t *testing.T) { // 8.3
	name := strings.Clone("of a row")
	plain, group := row(name, name), slices.Concat(row(name), row(0, 0, 0, nil), row(1, 0, 0, name), row(0, 0, 0, nil))
	other := slices.Concat(row("other"), row(0, 0, 0, nil), row(1, 0, 0, name), row(0, 0, 0, nil))
	for query, rows := range map[string][]api.Row{
		"(from t (get s s))":                          {plain, plain, plain},
		"(from t (group s) (get s (max s) s))":        {group, group, other},
		"(from t (group s) (get s (min s) s))":        {other},
		"(from t (group s) (get (count) s s))":        {slices.Concat(row(name), row(1, 0, 0, nil), row(0, 0, 0, nil), row(0, 0, 0, nil))},
		"(from t (get (max s)))":                      {row(1, 0, 0, name), row(1, 0, 0, name)},
		"(from t (join u s x) (get (min x) (count)))": {slices.Concat(row(1, 0, 0, name), row(1, 0, 0, nil))},
	} {
		b := bound(t, query)
		before := fmt.Sprint(rows)
		first, why := exec.Finish(b, catalog(), rows)
		again, _ := exec.Finish(b, catalog(), rows)
		if why != api.OK || len(texts(first)) == 0 {
			t.Fatalf("%s: %v, error %d", query, first, why)
		}
		all := texts(first)
		for i, a := range all {
			if within(a, name) {
				t.Errorf("%s: %q lies in what was handed in", query, a)
			}
			for _, c := range append(all[:i:i], texts(again)...) {
				if within(a, c) {
					t.Errorf("%s: %q lies in another text of an answer", query, a)
				}
			}
		}
		if !isApart([][]api.Row{first}) {
			t.Errorf("%s: rows of an answer share memory", query)
		}
		if third, _ := exec.Finish(b, catalog(), rows); !same(again, third) || fmt.Sprint(rows) != before {
			t.Errorf("%s: an answer shares memory with an earlier one, or with what was handed in", query)
		}
	}
}

// withRoom is a copy of a list with something behind it, which nobody may write to.
func withRoom[T any](l []T, behind T) []T {
	return append(slices.Clone(l), behind, behind)[:len(l)]
}

// roomy is a copy of rows with something behind each, and behind all.
func roomy(rows []api.Row) []api.Row {
	rows = withRoom(rows, row("behind"))
	for i, r := range rows {
		rows[i] = withRoom(r, text("behind"))
	}
	return rows
}

// behind is rows with what is behind them.
func behind(rows []api.Row) string {
	s := fmt.Sprint(len(rows), rows[:len(rows)+2])
	for _, r := range rows {
		s += fmt.Sprint(r[:len(r)+2])
	}
	return s
}

func TestNothingIsChanged(t *testing.T) { // 8.3
	d := rand.New(rand.NewPCG(8, 5))
	for range 1500 {
		b := bound(t, randomQuery(d))
		f := api.Frag{Left: api.Src{Table: b.Table}, Raw: d.IntN(3) == 0, By: d.IntN(3) - 1, To: withRoom([]int{4, 5, 6}, 77)}
		left, right := roomy(randomRows(d, colsOf(b.Table), d.IntN(9))), roomy(randomRows(d, colsOf(b.Join), d.IntN(9)))
		sent := roomy(runAgain(b, left, right))
		b.Group, b.Where, b.Items = withRoom(b.Group, 77), withRoom(b.Where, api.Step{Kind: 77}), withRoom(b.Items, api.Item{Agg: 77})
		cat := withRoom(catalog(), api.Table{Name: "behind"})
		for i := range cat {
			cat[i].Cols = withRoom(cat[i].Cols, column("behind", 7))
		}
		shown := func() string {
			s := fmt.Sprint(b, b.Group[:len(b.Group)+2], b.Where[:len(b.Where)+2], b.Items[:len(b.Items)+2], f, f.To[:5], cat[:5])
			for _, x := range cat {
				s += fmt.Sprint(x.Cols[:len(x.Cols)+2])
			}
			return s + behind(left) + behind(right) + behind(sent)
		}
		before := shown()
		lists, why := exec.Run(b, cat, f, left, right)
		rows, why1 := exec.Finish(b, cat, sent)
		if why != api.OK || why1 != api.OK {
			t.Fatalf("%+v: errors %d and %d", b, why, why1)
		}
		if shown() != before {
			t.Fatalf("what is handed in was changed: %s; not %s", shown(), before)
		}
		told := fmt.Sprint(lists, rows)
		for _, r := range slices.Concat(left, right, sent) {
			for i := range r {
				r[i] = text("changed")
			}
		}
		clear(f.To)
		if fmt.Sprint(lists, rows) != told {
			t.Fatalf("an answer of %+v hangs on what became of an argument", b)
		}
	}
}

// odd changes something in a query, a fragment or rows.
func odd(d *rand.Rand, b *api.Bound, f *api.Frag, rows ...*[]api.Row) {
	number := func() int { return pick(d, -2, -1, 0, 1, 2, 3, 4, 8, math.MaxInt, math.MinInt) }
	l := rows[d.IntN(len(rows))]
	switch d.IntN(20) {
	case 0:
		b.Table, b.Join = b.Join, b.Table
	case 1:
		b.Left = number()
	case 2:
		b.Right = number()
	case 3:
		b.Width = number()
	case 4:
		b.Group = append(b.Group, number())
	case 5:
		b.Grouped = !b.Grouped
	case 6:
		b.Items[0].Agg = api.AggKind(d.IntN(7))
	case 7:
		b.Kinds[0] = api.Kind(d.IntN(5))
	case 8:
		*b = api.Bound{Items: make([]api.Item, d.IntN(9)), Grouped: true}
	case 9:
		f.By = number()
	case 10:
		f.To = make([]int, pick(d, 0, 1, 64, 65, 1000))
	case 11:
		f.Left.Table = pick(d, "", "t", "u", "other", "\xff")
	case 12:
		*l = append(*l, randomRows(d, []api.Col{{}, {Kind: 2}, {Kind: 3}}, 1)...)
	case 13:
		*l = make([]api.Row, pick(d, 1, 512, 513, 4096, 4097))
	case 14:
		*l = slices.Clone(*l)
		if len(*l) > 0 && len((*l)[0]) > 0 {
			r := slices.Clone((*l)[0])
			r[d.IntN(len(r))] = pick(d, null(), whole(1), whole(-1), whole(1<<32), whole(1<<44+1), text("a"), text("\xff"), boolean(true), api.Value{Kind: 9}, api.Value{N: 1}, api.Value{Kind: 2, S: "a"}, text(strings.Repeat("a", 257)))
			(*l)[0] = r
		}
	}
}

// whyRun is the error of Run, by the document's words.
func whyRun(b api.Bound, f api.Frag, left, right []api.Row) api.Errno {
	if !bind.Right(b, catalog()) {
		return api.ErrState
	}
	table := b.Table
	if f.Raw {
		table = f.Left.Table
		known := table == b.Table || b.Join != "" && table == b.Join
		if !known || len(f.To) == 0 || len(f.To) > 64 || f.By < -1 || f.By >= len(colsOf(table)) {
			return api.ErrState
		}
	}
	if len(left) > 512 || len(right) > 512 {
		return api.ErrMany
	}
	for _, r := range left {
		if value.CheckRow(r, colsOf(table)) != api.OK {
			return api.ErrType
		}
	}
	for _, r := range right {
		if !f.Raw && b.Join != "" && value.CheckRow(r, colsOf(b.Join)) != api.OK {
			return api.ErrType
		}
	}
	return api.OK
}

// whyFinish is the error of Finish, by the document's words.
func whyFinish(b api.Bound, rows []api.Row) api.Errno {
	if !bind.Right(b, catalog()) {
		return api.ErrState
	}
	if len(rows) > 4096 {
		return api.ErrMany
	}
	for _, r := range rows {
		if !b.Grouped && !isAnswerRow(b.Kinds, r) || b.Grouped && !isGroupRow(b, r) {
			return api.ErrType
		}
	}
	return api.OK
}

func isAnswerRow(kinds []api.Kind, r api.Row) bool {
	for i, v := range r {
		if i >= len(kinds) || value.Check(v) != api.OK || v != null() && v.Kind != kinds[i] {
			return false
		}
	}
	return len(r) == len(kinds)
}

func isGroupRow(b api.Bound, r api.Row) bool {
	cols := slices.Concat(colsOf(b.Table), colsOf(b.Join))
	var kinds []api.Kind
	for _, p := range b.Group {
		kinds = append(kinds, cols[p].Kind)
	}
	for _, k := range b.Kinds {
		kinds = append(kinds, api.KindInt, api.KindInt, api.KindInt, k)
	}
	if !isAnswerRow(kinds, r) {
		return false
	}
	for i, item := range b.Items {
		four := r[len(b.Group)+4*i:][:4]
		count, high, low, best := four[0].N, four[1].N, four[2].N, four[3]
		if four[0] == null() || four[1] == null() || four[2] == null() || count < 0 || count > 4096 || high < -1<<44 || high > 1<<44 || low < 0 || low >= 1<<32 {
			return false
		}
		if count == 0 && (high != 0 || low != 0 || best != null()) {
			return false
		}
		if item.Agg != api.AggSum && (high != 0 || low != 0) || item.Agg == api.AggNone && count != 0 {
			return false
		}
		isBest := item.Agg == api.AggMin || item.Agg == api.AggMax
		if isBest && (best == null()) != (count == 0) || !isBest && best != null() {
			return false
		}
	}
	return true
}

func TestAnything(t *testing.T) { // P1, P2, P3, P4, 8.1, 8.2
	before := runtime.NumGoroutine()
	d := rand.New(rand.NewPCG(8, 6))
	found := map[string]int{}
	for range 40000 {
		b := bound(t, randomQuery(d))
		f := api.Frag{Left: api.Src{Table: b.Table}, Raw: d.IntN(3) == 0, By: d.IntN(3) - 1, To: []int{4, 5, 6}}
		left, right := randomRows(d, colsOf(b.Table), d.IntN(5)), randomRows(d, colsOf(b.Join), d.IntN(5))
		rows := runAgain(b, left, right)
		odd(d, &b, &f, &left, &right, &rows, &rows)
		lists, why := exec.Run(b, catalog(), f, left, right)
		if want := whyRun(b, f, left, right); why != want || why != api.OK && len(lists) != 0 {
			t.Fatalf("Run(%+v, %+v, %v, %v) = %v, error %d; not %d", b, f, left, right, lists, why, want)
		}
		if why == api.OK && !f.Raw && !sameLists(lists, [][]api.Row{runAgain(b, left, right)}) {
			t.Fatalf("Run(%+v, %v, %v) = %v; not %v", b, left, right, lists, runAgain(b, left, right))
		}
		found[fmt.Sprint("Run ", why)]++
		answer, why := exec.Finish(b, catalog(), rows)
		if want := whyFinish(b, rows); why != want || why != api.OK && len(answer) != 0 {
			t.Fatalf("Finish(%+v, %v) = %v, error %d; not %d", b, rows, answer, why, want)
		}
		if why == api.OK && !same(answer, finishAgain(b, rows)) {
			t.Fatalf("Finish(%+v, %v) = %v; not %v", b, rows, answer, finishAgain(b, rows))
		}
		found[fmt.Sprint("Finish ", why)]++
	}
	for _, call := range []string{"Run", "Finish"} {
		for _, why := range []api.Errno{api.OK, api.ErrState, api.ErrMany, api.ErrType} {
			if n := found[fmt.Sprint(call, " ", why)]; n < 100 {
				t.Errorf("%s: error %d is told %d times", call, why, n)
			}
		}
	}
	if n := runtime.NumGoroutine(); n > before { // an earlier test's own may have ended meanwhile
		t.Errorf("%d goroutines, and %d before", n, before)
	}
}

func TestNilAndEmptyAreAlike(t *testing.T) { // P1
	none := bound(t, "(from t (get (count)))")
	none.Where, none.Group, none.Items = nil, nil, []api.Item{{Agg: api.AggCount}}
	empty := none
	empty.Where, empty.Group, empty.Items = []api.Step{}, []int{}, []api.Item{{Agg: api.AggCount, Expr: []api.Step{}}}
	for _, b := range []api.Bound{none, empty} {
		for _, rows := range [][]api.Row{nil, {}} {
			if got, why := exec.Run(b, catalog(), api.Frag{To: []int{}}, rows, rows); why != api.OK || !sameLists(got, [][]api.Row{{row(0, 0, 0, nil)}}) {
				t.Error("Run:", got, why)
			}
			if got, why := exec.Finish(b, catalog(), rows); why != api.OK || !same(got, []api.Row{row(0)}) {
				t.Error("Finish:", got, why)
			}
			f := api.Frag{Left: api.Src{Table: "t"}, Raw: true, To: []int{1}}
			if got, why := exec.Run(b, catalog(), f, rows, rows); why != api.OK || !sameLists(got, [][]api.Row{nil}) {
				t.Error("Run:", got, why)
			}
			for _, to := range [][]int{nil, {}} {
				f.To = to
				if got, why := exec.Run(b, catalog(), f, rows, rows); why != api.ErrState || len(got) != 0 {
					t.Error("Run:", got, why)
				}
			}
		}
		for _, cat := range [][]api.Table{nil, {}} {
			if got, why := exec.Run(b, cat, api.Frag{}, nil, nil); why != api.ErrState || len(got) != 0 {
				t.Error("Run:", got, why)
			}
			if got, why := exec.Finish(b, cat, nil); why != api.ErrState || len(got) != 0 {
				t.Error("Finish:", got, why)
			}
		}
		for _, r := range []api.Row{nil, {}} {
			if got, why := exec.Finish(b, catalog(), []api.Row{r}); why != api.ErrType || len(got) != 0 {
				t.Error("Finish:", got, why)
			}
		}
	}
}
