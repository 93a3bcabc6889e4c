package exec_test

import (
	"math"
	"slices"
	"strings"
	"testing"

	"potsherd/api"
	"potsherd/bind"
	"potsherd/exec"
	"potsherd/parse"
	"potsherd/value"
)

func column(name string, k api.Kind) api.Col { return api.Col{Name: name, Kind: k} }
func null() api.Value                        { return api.Value{} }
func boolean(b bool) api.Value               { return api.Value{Kind: api.KindBool, B: b} }
func whole(n int64) api.Value                { return api.Value{Kind: api.KindInt, N: n} }
func text(s string) api.Value                { return api.Value{Kind: api.KindText, S: s} }

// row is one of what Go has for values; nil is null.
func row(l ...any) (r api.Row) {
	for _, x := range l {
		switch v := x.(type) {
		case bool:
			r = append(r, boolean(v))
		case int:
			r = append(r, whole(int64(v)))
		case string:
			r = append(r, text(v))
		default:
			r = append(r, null())
		}
	}
	return r
}

// catalog is the tables of these tests: t with four columns, u with two, and another one with these two the other way round, the first one of t's first one's kind.
func catalog() []api.Table {
	return []api.Table{
		{Name: "other", Cols: []api.Col{column("y", api.KindInt), column("x", api.KindText)}},
		{Name: "t", Cols: []api.Col{column("k", api.KindInt), column("a", api.KindInt), column("s", api.KindText), column("b", api.KindBool)}},
		{Name: "u", Cols: []api.Col{column("x", api.KindText), column("y", api.KindInt)}},
	}
}

func bound(t *testing.T, query string) api.Bound {
	t.Helper()
	q, why, at := parse.Parse(query)
	if why != api.OK {
		t.Fatalf("Parse(%s): error %d at %d", query, why, at)
	}
	b, why := bind.Bind(q, catalog())
	if why != api.OK {
		t.Fatalf("Bind(%s): error %d", query, why)
	}
	return b
}

// same tells whether two lists have the same rows, value by value.
func same(a, b []api.Row) bool {
	return slices.EqualFunc(a, b, func(x, y api.Row) bool { return slices.Equal(x, y) })
}

// sameLists tells whether two lists have the same lists of rows.
func sameLists(a, b [][]api.Row) bool { return slices.EqualFunc(a, b, same) }

// wantRun asks for what a fragment that is not Raw sends.
func wantRun(t *testing.T, query string, left, right []api.Row, want ...api.Row) {
	t.Helper()
	got, why := exec.Run(bound(t, query), catalog(), api.Frag{}, left, right)
	if why != api.OK || !sameLists(got, [][]api.Row{want}) {
		t.Errorf("%s: %v, error %d; not %v", query, got, why, want)
	}
}

func TestRunOfRows(t *testing.T) { // 8.1: not grouped, in the order of left
	left := []api.Row{row(3, 1, "c", true), row(1, nil, "é", nil), row(2, 5, nil, false), row(1, nil, "é", nil)}
	wantRun(t, "(from t)", left, nil, left...)
	wantRun(t, "(from t (get s k))", left, nil, row("c", 3), row("é", 1), row(nil, 2), row("é", 1))
	wantRun(t, "(from t (where (> k 1)) (get (+ k a) (length s)))", left, nil, row(4, 1), row(7, nil))
	wantRun(t, "(from t (where b) (get k))", left, nil, row(3)) // neither of false nor of null
	wantRun(t, "(from t (where null) (get k))", left, nil)
	wantRun(t, "(from t (where (null? a)) (get (* k 7) \"x\" null))", left, nil, row(7, "x", nil), row(7, "x", nil))
	wantRun(t, "(from t (get (+ k 9223372036854775807)))", left[:1], nil, row(nil))
	for _, none := range [][]api.Row{nil, {}} {
		wantRun(t, "(from t)", none, none)
		wantRun(t, "(from t (where b) (get k))", none, none)
	}
	// Without a Join right's rows are no matter, right or not.
	wantRun(t, "(from t (get k))", left[:1], []api.Row{nil, row(1), row("\xff", 3)}, row(3))
}

func TestRunOfAJoin(t *testing.T) { // 8.1: by left, then by right
	left := []api.Row{row(1, 9, "p", true), row(2, 8, nil, true), row(3, 7, "q", false), row(4, 6, "p", nil), row(5, 5, "é", nil), row(6, 4, "", nil)}
	right := []api.Row{row("q", 1), row("p", 2), row(nil, 3), row("p", 4), row("", 5), row("e\u0301", 6), row("p", 2)}
	wantRun(t, "(from t (join u s x) (get k y))", left, right,
		row(1, 2), row(1, 4), row(1, 2), row(3, 1), row(4, 2), row(4, 4), row(4, 2), row(6, 5))
	wantRun(t, "(from t (join u s x))", left[:1], right[:2], row(1, 9, "p", true, "p", 2))
	wantRun(t, "(from t (join u s x) (where (<> y 2)) (get (+ k y) x))", left, right, row(5, "p"), row(4, "q"), row(8, "p"), row(11, ""))
	wantRun(t, "(from t (join u a y) (get k x))", left, right, row(4, "e\u0301"), row(5, ""), row(6, "p"))
	wantRun(t, "(from u (join t s x) (get k y))", right[:2], left[:3], row(3, 1), row(1, 2)) // the tables turned round
	wantRun(t, "(from t (join u s x) (get k y))", left, nil)
	wantRun(t, "(from t (join u s x) (get k y))", nil, right)
	wantRun(t, "(from t (join u s x) (get k y))", left[1:2], right[2:3]) // null is not like null
	wantRun(t, "(from t (join u s x) (get (count)))", left, right, row(8, 0, 0, nil))
	wantRun(t, "(from t (join u s x) (group x) (get x (sum y) (max k)))", left, right,
		row("", 0, 0, 0, nil, 1, 0, 5, nil, 1, 0, 0, 6),
		row("p", 0, 0, 0, nil, 6, 0, 16, nil, 6, 0, 0, 4),
		row("q", 0, 0, 0, nil, 1, 0, 1, nil, 1, 0, 0, 3))
}

func TestRunOfGroups(t *testing.T) { // 8.1, 8.5, and what a group's row is
	left := []api.Row{row(2, -1, "z", true), row(1, 7, "a", nil), row(2, 5, nil, false), row(nil, nil, "b", true), row(1, nil, "c", nil), row(nil, 3, nil, nil)}
	wantRun(t, "(from t (group k) (get k (count) (sum a) (min s) (max b)))", left, nil,
		row(nil, 0, 0, 0, nil, 2, 0, 0, nil, 1, 0, 3, nil, 1, 0, 0, "b", 1, 0, 0, true),
		row(1, 0, 0, 0, nil, 2, 0, 0, nil, 1, 0, 7, nil, 2, 0, 0, "a", 0, 0, 0, nil),
		row(2, 0, 0, 0, nil, 2, 0, 0, nil, 2, 0, 4, nil, 1, 0, 0, "z", 2, 0, 0, true))
	wantRun(t, "(from t (group b k) (get (count)))", left, nil, // the Group's columns in its own order
		row(nil, nil, 1, 0, 0, nil), row(nil, 1, 2, 0, 0, nil), row(false, 2, 1, 0, 0, nil), row(true, nil, 1, 0, 0, nil), row(true, 2, 1, 0, 0, nil))
	wantRun(t, "(from t (group s) (get s))", left, nil,
		row(nil, 0, 0, 0, nil), row("a", 0, 0, 0, nil), row("b", 0, 0, 0, nil), row("c", 0, 0, 0, nil), row("z", 0, 0, 0, nil))
	wantRun(t, "(from t (where (= k 2)) (group k) (get (min a) (max a) (min (length s)) (sum null) (max null) k))", left, nil,
		row(2, 2, 0, 0, -1, 2, 0, 0, 5, 1, 0, 0, 1, 0, 0, 0, nil, 0, 0, 0, nil, 0, 0, 0, nil))
	wantRun(t, "(from t (get (count) (sum a) (min a) (max s)))", left, nil,
		row(6, 0, 0, nil, 4, 0, 14, nil, 4, 0, 0, -1, 4, 0, 0, "z"))
	// No rows: no group, but without Group's columns one.
	for _, none := range [][]api.Row{nil, {}} {
		wantRun(t, "(from t (group k) (get k (count)))", none, none)
		wantRun(t, "(from t (get (count) (sum a) (min a) (max s)))", none, none, row(0, 0, 0, nil, 0, 0, 0, nil, 0, 0, 0, nil, 0, 0, 0, nil))
	}
	wantRun(t, "(from t (where (= k 9)) (get (count) (sum a)))", left, nil, row(0, 0, 0, nil, 0, 0, 0, nil))
	wantRun(t, "(from t (where (= k 9)) (group k) (get (count)))", left, nil)
	// Rows, but no values.
	wantRun(t, "(from t (where (null? a)) (get (count) (sum a) (min a) (max a)))", left, nil, row(2, 0, 0, nil, 0, 0, 0, nil, 0, 0, 0, nil, 0, 0, 0, nil))
}

func TestRunOfManyGroups(t *testing.T) { // 8.1: as many columns of a Group, and as many items as may be
	cat := []api.Table{{Name: "w", Cols: make([]api.Col, api.MaxCols)}}
	b := api.Bound{Table: "w", Grouped: true}
	for i := range cat[0].Cols {
		cat[0].Cols[i] = column(string(rune('a'+i)), api.KindInt)
		b.Group = append(b.Group, api.MaxCols-1-i)
		b.Items = append(b.Items, api.Item{Agg: api.AggSum, Expr: []api.Step{{Kind: api.StepCol, N: int64(i)}}})
		b.Names, b.Kinds = append(b.Names, "c"+string(rune('1'+i))), append(b.Kinds, api.KindInt)
	}
	left := []api.Row{row(2, 0, 0, 0, 0, 0, 0, 0), row(1, 0, 0, 0, 0, 0, 0, 0), row(2, 0, 0, 0, 0, 0, 0, 0), row(0, 0, 0, 0, 0, 0, 0, -1), row(3, 0, 0, 0, 0, 0, 0, nil)}
	got, why := exec.Run(b, cat, api.Frag{}, left, nil)
	if why != api.OK || len(got) != 1 || len(got[0]) != 4 || len(got[0][0]) != 8+4*8 {
		t.Fatalf("%v, error %d", got, why)
	}
	for i, want := range []api.Row{row(nil, 0, 0, 0, 0, 0, 0, 3, 1, 0, 3), row(-1, 0, 0, 0, 0, 0, 0, 0, 1, 0, 0), row(0, 0, 0, 0, 0, 0, 0, 1, 1, 0, 1), row(0, 0, 0, 0, 0, 0, 0, 2, 2, 0, 4)} {
		if !slices.Equal(got[0][i][:11], want) {
			t.Errorf("group %d: %v; not %v", i, got[0][i][:11], want)
		}
	}
	rows, why := exec.Finish(b, cat, slices.Concat(got[0], got[0]))
	if why != api.OK || !same(rows, []api.Row{row(0, 0, 0, 0, 0, 0, 0, -2), row(2, 0, 0, 0, 0, 0, 0, 0), row(6, 0, 0, 0, 0, 0, 0, nil), row(8, 0, 0, 0, 0, 0, 0, 0)}) {
		t.Errorf("%v, error %d", rows, why)
	}
}

func TestRunOfSums(t *testing.T) { // 8.1: High and Low at both ends of 64 bits, and beyond
	const most, least = math.MaxInt64, math.MinInt64
	for _, x := range []struct {
		numbers   []int
		high, low int
	}{
		{[]int{0}, 0, 0},
		{[]int{1}, 0, 1},
		{[]int{-1}, -1, 1<<32 - 1},
		{[]int{1, -1}, 0, 0},
		{[]int{-1, -1}, -1, 1<<32 - 2},
		{[]int{1<<32 - 1}, 0, 1<<32 - 1},
		{[]int{1 << 32}, 1, 0},
		{[]int{1<<32 - 1, 1}, 1, 0},
		{[]int{-1 << 32}, -1, 0},
		{[]int{-1<<32 + 1}, -1, 1},
		{[]int{-1<<32 - 1}, -2, 1<<32 - 1},
		{[]int{-1 << 32, -1}, -2, 1<<32 - 1},
		{[]int{most}, 1<<31 - 1, 1<<32 - 1},
		{[]int{most - 1, 1}, 1<<31 - 1, 1<<32 - 1},
		{[]int{most, 1}, 1 << 31, 0},
		{[]int{most, 1, -1}, 1<<31 - 1, 1<<32 - 1},
		{[]int{most, most}, 1<<32 - 1, 1<<32 - 2},
		{[]int{least}, -1 << 31, 0},
		{[]int{least, -1}, -1<<31 - 1, 1<<32 - 1},
		{[]int{least, -1, 1}, -1 << 31, 0},
		{[]int{least, least}, -1 << 32, 0},
		{[]int{most, least}, -1, 1<<32 - 1},
		{slices.Repeat([]int{most}, 512), 1<<40 - 1, 1<<32 - 512},
		{slices.Repeat([]int{least}, 512), -1 << 40, 0},
	} {
		var left []api.Row
		for _, n := range x.numbers {
			left = append(left, row(nil, n, nil, nil))
		}
		wantRun(t, "(from t (get (sum a)))", left, nil, row(len(x.numbers), x.high, x.low, nil))
	}
}

func TestRunOfTheMost(t *testing.T) { // 8.1: as many rows as may be, and one more; what is joined may be more
	none, one := row(1, math.MinInt64, "s", true), row("s", math.MinInt64)
	left, right := slices.Repeat([]api.Row{none}, 512), slices.Repeat([]api.Row{one}, 512)
	wantRun(t, "(from t (get (count)))", left, nil, row(512, 0, 0, nil))
	wantRun(t, "(from t (get (count)))", left, right, row(512, 0, 0, nil))
	wantRun(t, "(from t (join u s x) (get (count) (sum a)))", left, right, row(1<<18, 0, 0, nil, 1<<18, -1<<49, 0, nil))
	wantRun(t, "(from t (join u s x) (get (count) (sum y)))", left[:64], right[:64], row(api.MaxAnswer, 0, 0, nil, api.MaxAnswer, -1<<43, 0, nil))
	rows, why := exec.Run(bound(t, "(from t (join u s x) (get k))"), catalog(), api.Frag{}, left, right[:100])
	if why != api.OK || len(rows) != 1 || len(rows[0]) != 51200 {
		t.Errorf("%d lists, error %d", len(rows), why)
	}
	raw := api.Frag{Left: api.Src{Table: "t"}, Raw: true, To: []int{1}}
	for _, query := range []string{"(from t)", "(from t (get (count)))", "(from t (join u s x))"} {
		for _, f := range []api.Frag{{}, raw} {
			for i, x := range [][2][]api.Row{{left, right}, {append(left[:512:512], none), nil}, {nil, append(right[:512:512], one)}, {make([]api.Row, 513), nil}, {nil, make([]api.Row, 1<<14)}} {
				want := api.ErrMany
				if i == 0 {
					want = api.OK
				}
				if i == 0 && query == "(from t (join u s x))" && !f.Raw {
					continue // 2^18 rows are made above
				}
				if got, why := exec.Run(bound(t, query), catalog(), f, x[0], x[1]); why != want || why != api.OK && len(got) != 0 {
					t.Errorf("%s of %d and %d: %d lists, error %d; not %d", query, len(x[0]), len(x[1]), len(got), why, want)
				}
			}
		}
	}
}

// wantRaw asks for what a Raw fragment sends.
func wantRaw(t *testing.T, query string, f api.Frag, left []api.Row, want ...[]api.Row) {
	t.Helper()
	f.Raw = true
	got, why := exec.Run(bound(t, query), catalog(), f, left, nil)
	if why != api.OK || !sameLists(got, want) {
		t.Errorf("%s, %+v: %v, error %d; not %v", query, f, got, why, want)
	}
}

func TestRunOfRawRows(t *testing.T) { // 8.1
	const query = "(from t (join u s x) (where false) (get k))" // Where is no matter yet
	left := []api.Row{row(1, 4, "a", true), row(2, nil, "b", nil), row(1, 3, nil, true), row(3, 1, "c", false), row(2, nil, "b", nil), row(nil, 1, nil, nil)}
	t4 := func(by int, to ...int) api.Frag { return api.Frag{Left: api.Src{Table: "t"}, By: by, To: to} }
	wantRaw(t, query, t4(-1, 7), left, left)
	wantRaw(t, query, t4(-1, 7, 8, 9), left, left, left, left)
	wantRaw(t, query, t4(-1, 7, 7), nil, nil, nil)
	wantRaw(t, query, t4(2, 7), left, left)
	for by := range 4 {
		for n := 1; n <= api.MaxFrags; n++ {
			want := make([][]api.Row, n)
			for _, r := range left {
				place := value.Hash(r[by]) % uint64(n)
				want[place] = append(want[place], r)
			}
			f := t4(by, make([]int, n)...)
			wantRaw(t, query, f, left, want...)
			wantRaw(t, "(from t)", f, left, want...)
			wantRaw(t, "(from t (group s) (get (sum a)))", f, left, want...)
			wantRaw(t, "(from u (join t s x) (get k))", f, left, want...) // t is the Join here
			wantRaw(t, query, f, nil, make([][]api.Row, n)...)
		}
	}
	// Hash(null) is odd; numbers of which the hashes are even and odd are told apart.
	wantRaw(t, query, t4(0, 5, 6), []api.Row{row(nil, 1, "", true)}, nil, []api.Row{row(nil, 1, "", true)})
	u2 := api.Frag{Left: api.Src{Table: "u"}, By: 1, To: []int{3, 4}}
	rows := []api.Row{row("p", 1), row(nil, 2), row("q", 1), row("", 3), row("r", nil)}
	want := make([][]api.Row, 2)
	for _, r := range rows {
		want[value.Hash(r[1])%2] = append(want[value.Hash(r[1])%2], r)
	}
	wantRaw(t, query, u2, rows, want...)
}

func TestRunOfRawFields(t *testing.T) { // 8.1: what a Raw fragment says beside is no matter, nor what one says that is not Raw
	left := []api.Row{row(1, 4, "a", true)}
	f := api.Frag{Id: -3, Node: 99, Left: api.Src{Kind: 9, Table: "t", Shard: -1, Frags: []int{-7}}, Right: api.Src{Table: "no one"}, By: -1, To: []int{-1, math.MaxInt}}
	wantRaw(t, "(from t (join u s x))", f, left, left, left)
	f.Left.Table, f.By, f.To = "no one", 77, make([]int, 99)
	got, why := exec.Run(bound(t, "(from t)"), catalog(), f, left, nil)
	if why != api.OK || !sameLists(got, [][]api.Row{left}) {
		t.Errorf("%v, error %d", got, why)
	}
	// Right's rows are no matter to a Raw one.
	f = api.Frag{Left: api.Src{Table: "t"}, Raw: true, By: -1, To: []int{1}}
	got, why = exec.Run(bound(t, "(from t (join u s x))"), catalog(), f, left, []api.Row{row("\xff"), nil})
	if why != api.OK || !sameLists(got, [][]api.Row{left}) {
		t.Errorf("%v, error %d", got, why)
	}
}

func TestRunErrors(t *testing.T) { // 8.1, P2, P3: the query and the fragment, how many rows, then what they are
	good, two := []api.Row{row(1, 2, "a", true)}, []api.Row{row("a", 2)}
	many := make([]api.Row, 513)
	bad := []api.Row{row(1, 2, "a", true), row(1, "2", "a", true)}
	raw := func(table string, by int, to int) api.Frag {
		return api.Frag{Left: api.Src{Table: table}, Raw: true, By: by, To: make([]int, to)}
	}
	wrong := bound(t, "(from t (join u s x) (get k))")
	wrong.Right = 1
	const single, join = "(from t (get k))", "(from t (join u s x) (get k))"
	const all = math.MaxInt
	for name, x := range map[string]struct {
		query       string
		f           api.Frag
		left, right []api.Row
		want        api.Errno
	}{
		"right":                          {single, api.Frag{}, good, nil, api.OK},
		"right of a join":                {join, api.Frag{}, good, two, api.OK},
		"raw":                            {single, raw("t", 0, 1), good, nil, api.OK},
		"raw of the first":               {join, raw("t", 3, api.MaxFrags), good, two, api.OK},
		"raw of the second":              {join, raw("u", 1, 2), two, good, api.OK},
		"raw to all":                     {join, raw("u", -1, 2), two, good, api.OK},
		"raw of another table":           {join, raw("other", 0, 1), nil, nil, api.ErrState},
		"raw of another one, to all":     {join, raw("other", -1, 1), nil, nil, api.ErrState},
		"raw of no table":                {join, raw("", -1, 1), nil, nil, api.ErrState},
		"raw of no table, without join":  {single, raw("", -1, 1), nil, nil, api.ErrState},
		"raw of what is not joined":      {single, raw("u", 0, 1), two, nil, api.ErrState},
		"raw of what is not joined, all": {single, raw("u", -1, 1), two, nil, api.ErrState},
		"raw to no one":                  {join, raw("t", 0, 0), good, nil, api.ErrState},
		"raw to too many":                {join, raw("t", 0, api.MaxFrags+1), good, nil, api.ErrState},
		"raw to far too many":            {join, raw("t", -1, 1<<16), good, nil, api.ErrState},
		"raw by one below":               {join, raw("t", -2, 1), good, nil, api.ErrState},
		"raw by one far below":           {join, raw("t", math.MinInt, 1), good, nil, api.ErrState},
		"raw by one beyond":              {join, raw("t", 4, 1), good, nil, api.ErrState},
		"raw by one beyond the second":   {join, raw("u", 2, 1), two, nil, api.ErrState},
		"raw by one far beyond":          {join, raw("u", all, 1), two, nil, api.ErrState},
		"state ahead of many":            {join, raw("u", 2, 1), many, many, api.ErrState},
		"state ahead of type":            {join, raw("t", 0, 0), bad, nil, api.ErrState},
		"many":                           {single, api.Frag{}, many, nil, api.ErrMany},
		"many of right":                  {join, api.Frag{}, good, many, api.ErrMany},
		"many of right ahead of type":    {join, api.Frag{}, bad, many, api.ErrMany},
		"many of right, without join":    {single, api.Frag{}, good, many, api.ErrMany},
		"many of right, raw":             {join, raw("t", 0, 1), good, many, api.ErrMany},
		"many, raw":                      {join, raw("t", 0, 1), many, nil, api.ErrMany},
		"of another kind":                {single, api.Frag{}, bad, nil, api.ErrType},
		"of another kind, raw":           {single, raw("t", 0, 1), bad, nil, api.ErrType},
		"a short row":                    {single, api.Frag{}, []api.Row{row(1, 2, "a")}, nil, api.ErrType},
		"a long row":                     {single, api.Frag{}, []api.Row{row(1, 2, "a", true, nil)}, nil, api.ErrType},
		"an empty row":                   {single, api.Frag{}, []api.Row{{}}, nil, api.ErrType},
		"a long text":                    {single, api.Frag{}, []api.Row{row(1, 2, strings.Repeat("a", 257), true)}, nil, api.ErrType},
		"a text as long as may be":       {single, api.Frag{}, []api.Row{row(1, 2, strings.Repeat("a", 256), true)}, nil, api.OK},
		"a bad text":                     {single, api.Frag{}, []api.Row{row(1, 2, "\xff", true)}, nil, api.ErrType},
		"no value":                       {single, api.Frag{}, []api.Row{{{N: 1}, null(), null(), null()}}, nil, api.ErrType},
		"no kind":                        {single, api.Frag{}, []api.Row{{{Kind: api.KindCount}, null(), null(), null()}}, nil, api.ErrType},
		"all null":                       {single, api.Frag{}, []api.Row{row(nil, nil, nil, nil)}, nil, api.OK},
		"not chosen, but wrong":          {"(from t (where false) (get k))", api.Frag{}, bad, nil, api.ErrType},
		"right of another table":         {join, api.Frag{}, good, good, api.ErrType},
		"left of another table":          {join, api.Frag{}, two, two, api.ErrType},
		"a wrong row of right":           {join, api.Frag{}, good, []api.Row{row("a", 2), row("a", true)}, api.ErrType},
		"a wrong row of right, no left":  {join, api.Frag{}, nil, []api.Row{row("a")}, api.ErrType},
		"a wrong row of right, raw":      {join, raw("t", 0, 1), good, []api.Row{row("a")}, api.OK},
		"raw, of the other table":        {join, raw("u", 0, 1), good, nil, api.ErrType},
	} {
		got, why := exec.Run(bound(t, x.query), catalog(), x.f, x.left, x.right)
		if why != x.want || why != api.OK && len(got) != 0 {
			t.Errorf("%s: %v, error %d; not %d", name, got, why, x.want)
		}
		for _, b := range []api.Bound{{}, wrong} {
			if got, why := exec.Run(b, catalog(), x.f, x.left, x.right); why != api.ErrState || len(got) != 0 {
				t.Errorf("%s, of no query: %v, error %d", name, got, why)
			}
		}
		for _, cat := range [][]api.Table{nil, catalog()[:1], append(catalog(), catalog()[1]), make([]api.Table, 9)} {
			if got, why := exec.Run(bound(t, x.query), cat, x.f, x.left, x.right); why != api.ErrState || len(got) != 0 {
				t.Errorf("%s, of no catalog: %v, error %d", name, got, why)
			}
		}
	}
}
