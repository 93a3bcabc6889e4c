package algebra_test

import (
	"math"
	"math/big"
	"reflect"
	"slices"
	"strconv"
	"strings"
	"testing"

	"potsherd/algebra"
	"potsherd/api"
	"potsherd/bind"
	"potsherd/parse"
	"potsherd/value"
)

func bound(t *testing.T, s string, l []api.Table) api.Bound {
	t.Helper()
	q, why, at := parse.Parse(s)
	if why != api.OK {
		t.Fatalf("Parse(%q): error %d at %d", s, why, at)
	}
	b, why := bind.Bind(q, l)
	if why != api.OK {
		t.Fatalf("Bind(%q): error %d", s, why)
	}
	return b
}

func answer(t *testing.T, s string, l []api.Table) []api.Row {
	t.Helper()
	rows, why := algebra.Run(bound(t, s, l), l)
	if why != api.OK {
		t.Fatalf("Run(%q): error %d", s, why)
	}
	return rows
}

func wantRows(t *testing.T, s string, l []api.Table, want ...api.Row) {
	t.Helper()
	rows := answer(t, s, l)
	if len(rows)+len(want) > 0 && !reflect.DeepEqual(rows, want) {
		t.Errorf("Run(%q) = %v; not %v", s, rows, want)
	}
}

// numbers is a table t of one column a.
func numbers(l ...api.Value) []api.Table {
	t := api.Table{Name: "t", Cols: []api.Col{column("a", api.KindInt)}}
	for _, v := range l {
		t.Rows = append(t.Rows, api.Row{v})
	}
	return []api.Table{t}
}

// twoTables are t and u, which share some keys; each has null among them, and one twice.
func twoTables() []api.Table {
	return []api.Table{
		{
			Name: "u", Cols: []api.Col{column("x", api.KindBool), column("k", api.KindInt), column("y", api.KindText)},
			Rows: []api.Row{{boolean(true), whole(2), text("b")}, {null(), whole(1), text("a")}, {boolean(false), null(), text("é")}, {boolean(true), whole(2), null()}, {null(), whole(9), text("")}},
		},
		{
			Name: "t", Cols: []api.Col{column("k", api.KindInt), column("s", api.KindText)},
			Rows: []api.Row{{whole(2), text("é")}, {whole(1), text("b")}, {null(), text("é")}, {whole(2), null()}, {whole(3), text("")}},
		},
	}
}

func TestExample(t *testing.T) { // 5.1, the chapter's example
	l := numbers(whole(1), null(), whole(3))
	wantRows(t, "(from t (get (sum a) (count)))", l, api.Row{whole(4), whole(3)})
	wantRows(t, "(from t (where (> a 1)) (get (sum a) (count)))", l, api.Row{whole(3), whole(1)})
	wantRows(t, "(from t (where (> a 5)) (get (sum a) (count)))", l, api.Row{null(), whole(0)})
}

func TestRowsOfOneTable(t *testing.T) { // 5.1
	l := twoTables()
	wantRows(t, "(from t)", l,
		api.Row{null(), text("é")}, api.Row{whole(1), text("b")}, api.Row{whole(2), null()}, api.Row{whole(2), text("é")}, api.Row{whole(3), text("")})
	wantRows(t, "(from t (get k))", l, api.Row{null()}, api.Row{whole(1)}, api.Row{whole(2)}, api.Row{whole(2)}, api.Row{whole(3)})
	wantRows(t, "(from t (get (length s) \"x\" (neg k) null true k))", l,
		api.Row{null(), text("x"), whole(-2), null(), boolean(true), whole(2)},
		api.Row{whole(0), text("x"), whole(-3), null(), boolean(true), whole(3)},
		api.Row{whole(1), text("x"), null(), null(), boolean(true), null()},
		api.Row{whole(1), text("x"), whole(-2), null(), boolean(true), whole(2)},
		api.Row{whole(1), text("x"), whole(-1), null(), boolean(true), whole(1)})
	wantRows(t, "(from t (get 7 7))", numbers())
	wantRows(t, "(from t)", numbers(whole(5)), api.Row{whole(5)})
}

func TestWhere(t *testing.T) { // 5.1: neither false nor null chooses a row
	l := twoTables()
	wantRows(t, "(from u (where x) (get k y))", l, api.Row{whole(2), null()}, api.Row{whole(2), text("b")})
	wantRows(t, "(from u (where (not x)) (get y))", l, api.Row{text("é")})
	wantRows(t, "(from u (where (null? x)) (get y))", l, api.Row{text("")}, api.Row{text("a")})
	wantRows(t, "(from u (where null))", l)
	wantRows(t, "(from u (where false))", l)
	wantRows(t, "(from u (where true) (get k))", l, api.Row{null()}, api.Row{whole(1)}, api.Row{whole(2)}, api.Row{whole(2)}, api.Row{whole(9)})
	wantRows(t, "(from t (where (= k k)) (get k))", l, api.Row{whole(1)}, api.Row{whole(2)}, api.Row{whole(2)}, api.Row{whole(3)})
	wantRows(t, "(from t (where (>= s \"b\")) (get s))", l, api.Row{text("b")}, api.Row{text("é")}, api.Row{text("é")})
}

func TestJoin(t *testing.T) { // 5.1: null goes with nothing, what is there twice with each
	l := twoTables()
	wantRows(t, "(from t (join u t.k u.k))", l,
		api.Row{whole(1), text("b"), null(), whole(1), text("a")},
		api.Row{whole(2), null(), boolean(true), whole(2), null()},
		api.Row{whole(2), null(), boolean(true), whole(2), text("b")},
		api.Row{whole(2), text("é"), boolean(true), whole(2), null()},
		api.Row{whole(2), text("é"), boolean(true), whole(2), text("b")})
	wantRows(t, "(from u (join t s y))", l,
		api.Row{null(), whole(9), text(""), whole(3), text("")},
		api.Row{boolean(false), null(), text("é"), null(), text("é")},
		api.Row{boolean(false), null(), text("é"), whole(2), text("é")},
		api.Row{boolean(true), whole(2), text("b"), whole(1), text("b")})
	wantRows(t, "(from t (join u t.k u.k) (where (and x (null? y))) (get s y))", l, api.Row{null(), null()}, api.Row{text("é"), null()})
	wantRows(t, "(from t (join u t.k u.k) (where (> u.k 5)))", l)
	wantRows(t, "(from t (join u t.k u.k) (get (count) (sum u.k) (min y)))", l, api.Row{whole(5), whole(9), text("a")})
	wantRows(t, "(from t (join u t.k u.k) (where (< t.k 0)) (get (count) (max y)))", l, api.Row{whole(0), null()})
	l[0].Rows = nil
	wantRows(t, "(from t (join u t.k u.k))", l)
	wantRows(t, "(from u (join t t.k u.k))", l)
	wantRows(t, "(from u (join t t.k u.k) (get (count)))", l, api.Row{whole(0)})
}

func TestGroups(t *testing.T) { // 5.1
	l := twoTables()
	wantRows(t, "(from t (group k) (get k (count) (max s)))", l,
		api.Row{null(), whole(1), text("é")}, api.Row{whole(1), whole(1), text("b")}, api.Row{whole(2), whole(2), text("é")}, api.Row{whole(3), whole(1), text("")})
	wantRows(t, "(from u (group x) (get (count) x (sum k)))", l,
		api.Row{whole(1), boolean(false), null()}, api.Row{whole(2), null(), whole(10)}, api.Row{whole(2), boolean(true), whole(4)})
	wantRows(t, "(from u (group k x) (get x k))", l,
		api.Row{null(), whole(1)}, api.Row{null(), whole(9)}, api.Row{boolean(false), null()}, api.Row{boolean(true), whole(2)})
}

func TestGroupedWithoutAggregates(t *testing.T) { // 5.1: a group is one row, whatever is asked of it
	l := twoTables()
	wantRows(t, "(from t (group k) (get k))", l, api.Row{null()}, api.Row{whole(1)}, api.Row{whole(2)}, api.Row{whole(3)})
	wantRows(t, "(from u (group x k) (get x))", l, api.Row{null()}, api.Row{null()}, api.Row{boolean(false)}, api.Row{boolean(true)})
	wantRows(t, "(from t (group s) (get (count)))", l, api.Row{whole(1)}, api.Row{whole(1)}, api.Row{whole(1)}, api.Row{whole(2)})
	wantRows(t, "(from t (join u t.k u.k) (group s y) (get y s s (count)))", l,
		api.Row{null(), null(), null(), whole(1)},
		api.Row{null(), text("é"), text("é"), whole(1)},
		api.Row{text("a"), text("b"), text("b"), whole(1)},
		api.Row{text("b"), null(), null(), whole(1)},
		api.Row{text("b"), text("é"), text("é"), whole(1)})
}

func TestGroupsByNull(t *testing.T) { // 5.1: null and null are of one group, and null is none of the others
	table := api.Table{Name: "t", Cols: []api.Col{column("a", api.KindInt), column("b", api.KindBool), column("s", api.KindText)}}
	for _, a := range []api.Value{null(), whole(0)} {
		for _, b := range []api.Value{null(), boolean(false)} {
			for _, s := range []api.Value{null(), text("")} {
				table.Rows = append(table.Rows, api.Row{a, b, s}, api.Row{a, b, s})
			}
		}
	}
	l := []api.Table{table}
	wantRows(t, "(from t (group a) (get a (count)))", l, api.Row{null(), whole(8)}, api.Row{whole(0), whole(8)})
	wantRows(t, "(from t (group s) (get s (count)))", l, api.Row{null(), whole(8)}, api.Row{text(""), whole(8)})
	wantRows(t, "(from t (group s b) (get b s (count)))", l,
		api.Row{null(), null(), whole(4)}, api.Row{null(), text(""), whole(4)}, api.Row{boolean(false), null(), whole(4)}, api.Row{boolean(false), text(""), whole(4)})
	if rows := answer(t, "(from t (group a b s) (get a b s (count)))", l); len(rows) != 8 {
		t.Error("groups:", rows)
	}
	table.Rows = slices.Repeat([]api.Row{{null(), null(), null()}}, api.MaxRows)
	wantRows(t, "(from t (group a b s) (get a b s (count) (count) (sum a) (min b) (max s)))", []api.Table{table},
		api.Row{null(), null(), null(), whole(api.MaxRows), whole(api.MaxRows), null(), null(), null()})
}

func TestNoRows(t *testing.T) { // 5.1: one group without columns, none with them
	for _, l := range [][]api.Table{numbers(), numbers(whole(1), null())} {
		for _, where := range []string{"(where false)", "(where null)", "(where (> a 5))"} {
			wantRows(t, "(from t "+where+" (get (count) (sum a) (min a) (max a) (sum null) (max (+ a 1))))", l, api.Row{whole(0), null(), null(), null(), null(), null()})
			wantRows(t, "(from t "+where+" (get (count)))", l, api.Row{whole(0)})
			wantRows(t, "(from t "+where+" (group a) (get (count)))", l)
			wantRows(t, "(from t "+where+" (group a) (get a))", l)
			wantRows(t, "(from t "+where+" (get a))", l)
			wantRows(t, "(from t "+where+" (get 1))", l)
		}
	}
}

func TestLeastAndGreatest(t *testing.T) { // 5.1
	table := api.Table{Name: "t", Cols: []api.Col{column("a", api.KindInt), column("b", api.KindBool), column("s", api.KindText)}, Rows: []api.Row{
		{whole(3), null(), text("é")}, {null(), boolean(true), null()}, {whole(math.MinInt64), boolean(false), text("b")}, {whole(math.MaxInt64), boolean(true), text("日")}, {whole(-1), null(), text("ba")},
	}}
	l := []api.Table{table}
	wantRows(t, "(from t (get (min a) (max a) (min b) (max b) (min s) (max s)))", l,
		api.Row{whole(math.MinInt64), whole(math.MaxInt64), boolean(false), boolean(true), text("b"), text("日")})
	wantRows(t, "(from t (get (min (neg a)) (max (neg a)) (min (null? b)) (max (length s)) (min null) (max 7)))", l,
		api.Row{whole(-math.MaxInt64), whole(1), boolean(false), whole(2), null(), whole(7)})
	wantRows(t, "(from t (where (null? a)) (get (min a) (max a) (min b) (max s)))", l, api.Row{null(), null(), boolean(true), null()})
	slices.Reverse(table.Rows)
	wantRows(t, "(from t (get (min a) (max a) (min b) (max b) (min s) (max s)))", l,
		api.Row{whole(math.MinInt64), whole(math.MaxInt64), boolean(false), boolean(true), text("b"), text("日")})
}

func TestSumsAtTheEnds(t *testing.T) { // 5.1: at both ends of 64 bits, one past each, and beyond them in between alone
	const least, most = math.MinInt64, math.MaxInt64
	for _, l := range [][]int64{
		{most}, {least}, {most - 1, 1}, {most, 1}, {least + 1, -1}, {least, -1},
		{most, 1, -1}, {1, most, -1}, {most, most, least, least}, {least, least, most, most, 1, 1},
		{most, most, -most}, {most, most, most, least, least}, {least, -1, 1}, {least, least, most}, {least, least, most, 1},
		{least, least, most, most, 1}, {least, least, most, most, 2, most}, {least, least, most, most, 3, most},
		{1 << 62, 1 << 62, 1 << 62, 1 << 62}, {-1 << 62, -1 << 62, -1 << 62, -1 << 62}, // 0, modulo 2^64
		{least, least}, {least, least, least}, {most, most, 2}, {most, most, 3}, {0}, {0, 0}, {-1}, {-1, -1}, {-1, 1},
	} {
		real := new(big.Int)
		for _, n := range l {
			real.Add(real, big.NewInt(n))
		}
		want := null()
		if real.IsInt64() {
			want = whole(real.Int64())
		}
		for turn := range len(l) { // whatever comes first
			values := []api.Value{null()}
			for i := range l {
				values = append(values, whole(l[(i+turn)%len(l)]))
			}
			wantRows(t, "(from t (get (sum a) (count)))", numbers(values...), api.Row{want, whole(int64(len(values)))})
			slices.Reverse(values)
			wantRows(t, "(from t (get (sum a) (count)))", numbers(values...), api.Row{want, whole(int64(len(values)))})
		}
	}
}

func TestSumsOfGroups(t *testing.T) { // 5.1: a sum that is too great is null in its own group alone
	table := api.Table{Name: "t", Cols: []api.Col{column("g", api.KindInt), column("a", api.KindInt)}, Rows: []api.Row{
		{whole(1), whole(math.MaxInt64)}, {whole(2), whole(math.MaxInt64)}, {whole(1), whole(1)}, {whole(2), null()}, {whole(3), null()}, {null(), whole(4)}, {null(), whole(5)},
	}}
	wantRows(t, "(from t (group g) (get g (sum a) (count) (max a) (sum (+ a 1))))", []api.Table{table},
		api.Row{null(), whole(9), whole(2), whole(5), whole(11)},
		api.Row{whole(1), null(), whole(2), whole(math.MaxInt64), whole(2)}, // what an expression has beyond is left out
		api.Row{whole(2), whole(math.MaxInt64), whole(2), whole(math.MaxInt64), null()},
		api.Row{whole(3), null(), whole(1), null(), null()})
}

// wide are tables t and u of as many rows as may be, all of which go with each other.
func wide(a, b int64) []api.Table {
	var l []api.Table
	for _, name := range []string{"t", "u"} {
		table := api.Table{Name: name}
		for i := range api.MaxCols {
			table.Cols = append(table.Cols, column(name+strconv.Itoa(i), api.KindInt))
		}
		for i := range api.MaxRows {
			r := slices.Repeat(api.Row{whole(7)}, api.MaxCols)
			r[1] = whole(a)
			if i%2 == 1 {
				r[1] = whole(b)
			}
			r[2] = whole(int64(i))
			table.Rows = append(table.Rows, r)
		}
		l = append(l, table)
	}
	return l
}

func TestAsManyRowsAsMayBe(t *testing.T) { // 5.1
	const least, most = math.MinInt64, math.MaxInt64
	rows := answer(t, "(from t (join u t0 u0) (get u2 t2))", wide(1, 2))
	if len(rows) != api.MaxAnswer {
		t.Fatal("rows:", len(rows))
	}
	for i, r := range rows {
		if !reflect.DeepEqual(r, api.Row{whole(int64(i / api.MaxRows)), whole(int64(i % api.MaxRows))}) {
			t.Fatalf("row %d: %v", i, r)
		}
	}
	sums := "(from t (join u t0 u0) (get (count) (sum t1) (sum u1)))"
	wantRows(t, sums, wide(most, -most), api.Row{whole(api.MaxAnswer), whole(0), whole(0)})
	wantRows(t, sums, wide(most, least), api.Row{whole(api.MaxAnswer), whole(-api.MaxAnswer / 2), whole(-api.MaxAnswer / 2)})
	wantRows(t, sums, wide(most, most), api.Row{whole(api.MaxAnswer), null(), null()})
	wantRows(t, sums, wide(least, least), api.Row{whole(api.MaxAnswer), null(), null()})
	wantRows(t, sums, wide(1<<52, 1<<52), api.Row{whole(api.MaxAnswer), null(), null()})
	wantRows(t, sums, wide(-1<<51, -1<<51), api.Row{whole(api.MaxAnswer), whole(least), whole(least)})
	if rows := answer(t, "(from t (join u t0 u0) (group t2 u2) (get t2 u2 (count)))", wide(1, 2)); len(rows) != api.MaxAnswer {
		t.Error("groups:", len(rows))
	}
	wantRows(t, "(from t (join u t0 u0) (group t0 t3 t4 t5 u3 u4 u5 u6) (get u6 (count)))", wide(1, 2), api.Row{whole(7), whole(api.MaxAnswer)})
	wantRows(t, "(from t (where (= t2 63)))", wide(1, 2), api.Row{whole(7), whole(2), whole(63), whole(7), whole(7), whole(7), whole(7), whole(7)})
}

func TestRunErrors(t *testing.T) { // 5.1, P2: all tables must be right, those that are not asked, too
	right := func() ([]api.Table, api.Bound) {
		l := append(twoTables(), numbers(whole(1))...)
		l[2].Name = "v"
		return l, bound(t, "(from t (join u t.k u.k) (where x) (group s) (get s (count)))", l)
	}
	wrong := map[string]func(l []api.Table, b *api.Bound) []api.Table{
		"no tables":                  func(l []api.Table, b *api.Bound) []api.Table { return nil },
		"a table less":               func(l []api.Table, b *api.Bound) []api.Table { return l[1:] },
		"a table twice":              func(l []api.Table, b *api.Bound) []api.Table { return append(l, l[2]) },
		"too many tables":            func(l []api.Table, b *api.Bound) []api.Table { return append(l, tables(6)...) },
		"a table without a name":     func(l []api.Table, b *api.Bound) []api.Table { l[2].Name = ""; return l },
		"a table without columns":    func(l []api.Table, b *api.Bound) []api.Table { l[2].Cols, l[2].Rows = nil, nil; return l },
		"a row too short":            func(l []api.Table, b *api.Bound) []api.Table { l[0].Rows[4] = l[0].Rows[4][:2]; return l },
		"a row too long":             func(l []api.Table, b *api.Bound) []api.Table { l[1].Rows[0] = append(l[1].Rows[0], null()); return l },
		"a value of another kind":    func(l []api.Table, b *api.Bound) []api.Table { l[1].Rows[4][0] = text("a"); return l },
		"a value that is not right":  func(l []api.Table, b *api.Bound) []api.Table { l[1].Rows[2][0].N = 1; return l },
		"a text too long":            func(l []api.Table, b *api.Bound) []api.Table { l[1].Rows[0][1].S = strings.Repeat("a", 257); return l },
		"no UTF-8":                   func(l []api.Table, b *api.Bound) []api.Table { l[1].Rows[0][1].S = "\xff"; return l },
		"wrong, and not asked":       func(l []api.Table, b *api.Bound) []api.Table { l[2].Rows[0][0] = text("a"); return l },
		"too many rows, and ..":      func(l []api.Table, b *api.Bound) []api.Table { l[2].Rows = slices.Repeat(l[2].Rows, 65); return l },
		"nothing bound":              func(l []api.Table, b *api.Bound) []api.Table { *b = api.Bound{}; return l },
		"another table":              func(l []api.Table, b *api.Bound) []api.Table { b.Table = "v"; return l },
		"the same table":             func(l []api.Table, b *api.Bound) []api.Table { b.Join = "t"; return l },
		"no join":                    func(l []api.Table, b *api.Bound) []api.Table { b.Join = ""; return l },
		"another width":              func(l []api.Table, b *api.Bound) []api.Table { b.Width = 3; return l },
		"another left":               func(l []api.Table, b *api.Bound) []api.Table { b.Left = 2; return l },
		"below":                      func(l []api.Table, b *api.Bound) []api.Table { b.Left = -1; return l },
		"another right":              func(l []api.Table, b *api.Bound) []api.Table { b.Right = 3; return l },
		"of two kinds":               func(l []api.Table, b *api.Bound) []api.Table { b.Right = 2; return l },
		"where is a number":          func(l []api.Table, b *api.Bound) []api.Table { b.Where = steps(at(0)); return l },
		"where is beyond":            func(l []api.Table, b *api.Bound) []api.Table { b.Where = steps(at(5)); return l },
		"where has nothing to take":  func(l []api.Table, b *api.Bound) []api.Table { b.Where = steps(op(api.StepAnd)); return l },
		"a group beyond":             func(l []api.Table, b *api.Bound) []api.Table { b.Group = append(b.Group, 5); return l },
		"a group twice":              func(l []api.Table, b *api.Bound) []api.Table { b.Group = append(b.Group, 1); return l },
		"no group":                   func(l []api.Table, b *api.Bound) []api.Table { b.Group = nil; return l },
		"not grouped":                func(l []api.Table, b *api.Bound) []api.Table { b.Grouped = false; return l },
		"no items":                   func(l []api.Table, b *api.Bound) []api.Table { b.Items, b.Names, b.Kinds = nil, nil, nil; return l },
		"an item that is no group's": func(l []api.Table, b *api.Bound) []api.Table { b.Items[0].Expr[0].N = 0; return l },
		"a sum of texts":             func(l []api.Table, b *api.Bound) []api.Table { b.Items[0].Agg = api.AggSum; return l },
		"no aggregate":               func(l []api.Table, b *api.Bound) []api.Table { b.Items[1].Agg = api.AggEnd; return l },
		"another name":               func(l []api.Table, b *api.Bound) []api.Table { b.Names[0] = "k"; return l },
		"another kind":               func(l []api.Table, b *api.Bound) []api.Table { b.Kinds[0] = api.KindInt; return l },
	}
	for name, change := range wrong {
		l, b := right()
		if _, why := algebra.Run(b, l); why != api.OK {
			t.Fatal("what is right: error", why)
		}
		l = change(l, &b)
		if rows, why := algebra.Run(b, l); why != api.ErrState || len(rows) != 0 {
			t.Errorf("%s: %v, error %d", name, rows, why)
		}
	}
}

// tables are n right ones, with names of their own.
func tables(n int) []api.Table {
	var l []api.Table
	for i := range n {
		l = append(l, api.Table{Name: "w" + strconv.Itoa(i), Cols: []api.Col{column("a", api.KindInt)}})
	}
	return l
}

func TestAsManyTablesAsMayBe(t *testing.T) { // 5.1
	l := append(tables(api.MaxTables-1), numbers(whole(4))...)
	wantRows(t, "(from t)", l, api.Row{whole(4)})
	l[7].Rows = slices.Repeat(l[7].Rows, api.MaxRows)
	wantRows(t, "(from t (get (count)))", l, api.Row{whole(api.MaxRows)})
	l[7].Rows = append(l[7].Rows, api.Row{whole(4)})
	b := bound(t, "(from t (get (count)))", l)
	if rows, why := algebra.Run(b, l); why != api.ErrState || len(rows) != 0 || value.CheckTable(l[7]) != api.ErrMany {
		t.Error("a row too many:", rows, why)
	}
}
