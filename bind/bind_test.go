package bind_test

import (
	"reflect"
	"slices"
	"strings"
	"testing"

	"potsherd/api"
	"potsherd/bind"
	"potsherd/parse"
)

// catalog has t and u with columns of the same names, and v with as many as may be.
func catalog() []api.Table {
	return []api.Table{
		{Name: "t", Cols: []api.Col{column("k", api.KindInt), column("s", api.KindText), column("b", api.KindBool)}},
		{Name: "u", Cols: []api.Col{column("s", api.KindText), column("k", api.KindInt), column("x", api.KindInt), column("y", api.KindText)}, Rows: []api.Row{{{Kind: 9}}}},
		{Name: "v", Cols: []api.Col{column("c1", api.KindInt), column("c2", api.KindInt), column("c3", api.KindInt), column("c4", api.KindInt), column("c5", api.KindInt), column("c6", api.KindInt), column("c7", api.KindInt), column("c8", api.KindInt)}},
		{Name: "not asked", Cols: []api.Col{column("z", api.KindInt)}},
		{Name: "odd", Cols: []api.Col{column("a b", api.KindInt), column("t.k", api.KindText), column("null", api.KindBool), column("k", api.KindInt)}},
	}
}

func read(t *testing.T, s string) api.Query {
	t.Helper()
	q, why, at := parse.Parse(s)
	if why != api.OK {
		t.Fatalf("Parse(%q): error %d at %d", s, why, at)
	}
	return q
}

func wantBound(t *testing.T, s string, want api.Bound) {
	t.Helper()
	b, why := bind.Bind(read(t, s), catalog())
	if why != api.OK || !reflect.DeepEqual(b, want) {
		t.Errorf("Bind(%q) = %+v, error %d; not %+v", s, b, why, want)
	}
	if !bind.Right(b, catalog()) {
		t.Errorf("Bind(%q) is not right", s)
	}
}

func wantError(t *testing.T, s string, want api.Errno) {
	t.Helper()
	b, why := bind.Bind(read(t, s), catalog())
	if why != want || why != api.OK && !reflect.DeepEqual(b, api.Bound{}) {
		t.Errorf("Bind(%q) = %+v, error %d; not %d", s, b, why, want)
	}
}

func names(l ...string) []string     { return l }
func kinds(l ...api.Kind) []api.Kind { return l }
func plain(l ...api.Step) api.Item   { return api.Item{Expr: l} }
func items(l ...api.Item) []api.Item { return l }
func columnsTo(n int64) (l []api.Item) { // the first n
	for i := range n {
		l = append(l, plain(at(i)))
	}
	return l
}

func TestBindWhole(t *testing.T) { // 4.2
	wantBound(t, "(from t)", api.Bound{Table: "t", Items: columnsTo(3), Names: names("k", "s", "b"), Kinds: kinds(api.KindInt, api.KindText, api.KindBool)})
	wantBound(t, "(from t (join u t.k u.k))", api.Bound{
		Table: "t", Join: "u", Width: 3, Left: 0, Right: 1,
		Items: columnsTo(7), Names: names("k", "s", "b", "s", "k", "x", "y"),
		Kinds: kinds(api.KindInt, api.KindText, api.KindBool, api.KindText, api.KindInt, api.KindInt, api.KindText),
	})
	wantBound(t, "(from u (join t x t.k) (where (and b null (= y \"é\"))) (group y t.s) (get (count) t.s (sum (+ x 1)) y (min b) (max null) (sum null)))", api.Bound{
		Table: "u", Join: "t", Width: 4, Left: 2, Right: 0,
		Where: steps(at(6), op(api.StepNull), at(3), text("é"), op(api.StepEqual), op(api.StepAnd), op(api.StepAnd)),
		Group: []int{3, 5}, Grouped: true,
		Items: items(api.Item{Agg: api.AggCount}, plain(at(5)), api.Item{Agg: api.AggSum, Expr: steps(at(2), whole(1), op(api.StepAdd))}, plain(at(3)), api.Item{Agg: api.AggMin, Expr: steps(at(6))}, api.Item{Agg: api.AggMax, Expr: steps(op(api.StepNull))}, api.Item{Agg: api.AggSum, Expr: steps(op(api.StepNull))}),
		Names: names("c1", "s", "c3", "y", "c5", "c6", "c7"),
		Kinds: kinds(api.KindInt, api.KindText, api.KindInt, api.KindText, api.KindBool, api.KindNull, api.KindInt),
	})
	wantBound(t, "(from t (get (length s)))", api.Bound{Table: "t", Items: items(plain(at(1), op(api.StepLength))), Names: names("c1"), Kinds: kinds(api.KindInt)})
	wantBound(t, "(from t (get k t.k k (neg k) null \"a\" (null? k) false))", api.Bound{
		Table: "t", Items: items(plain(at(0)), plain(at(0)), plain(at(0)), plain(at(0), op(api.StepNeg)), plain(op(api.StepNull)), plain(text("a")), plain(at(0), op(api.StepIsNull)), plain(op(api.StepFalse))),
		Names: names("k", "k", "k", "c4", "c5", "c6", "c7", "c8"),
		Kinds: kinds(api.KindInt, api.KindInt, api.KindInt, api.KindInt, api.KindNull, api.KindText, api.KindBool, api.KindBool),
	})
	wantBound(t, "(from t (get (max s)))", api.Bound{Table: "t", Grouped: true, Items: items(api.Item{Agg: api.AggMax, Expr: steps(at(1))}), Names: names("c1"), Kinds: kinds(api.KindText)})
	wantBound(t, "(from t (where null) (group s) (get s))", api.Bound{Table: "t", Where: steps(op(api.StepNull)), Group: []int{1}, Grouped: true, Items: items(plain(at(1))), Names: names("s"), Kinds: kinds(api.KindText)})
	wantBound(t, "(from odd)", api.Bound{Table: "odd", Items: columnsTo(4), Names: names("a b", "t.k", "null", "k"), Kinds: kinds(api.KindInt, api.KindText, api.KindBool, api.KindInt)})
	wantBound(t, "(from v (join t c8 k) (get c1 k))", api.Bound{Table: "v", Join: "t", Width: 8, Left: 7, Items: items(plain(at(0)), plain(at(8))), Names: names("c1", "k"), Kinds: kinds(api.KindInt, api.KindInt)})
	wantBound(t, "(from v (join t k c8) (get t.k))", api.Bound{Table: "v", Join: "t", Width: 8, Left: 7, Items: items(plain(at(8))), Names: names("k"), Kinds: kinds(api.KindInt)})
}

func TestBindTables(t *testing.T) { // 4.2
	wantError(t, "(from z)", api.ErrName)
	wantError(t, "(from T)", api.ErrName)
	wantError(t, "(from t (join z a b))", api.ErrName)
	wantError(t, "(from z (join t k k) (where s) (get (sum s)))", api.ErrName)
}

func TestBindJoins(t *testing.T) { // 4.2
	for s, want := range map[string]api.Errno{
		"t.k u.k": api.OK, "u.k t.k": api.OK, "t.k x": api.OK, "x t.k": api.OK, "t.s y": api.OK, "u.s t.s": api.OK,
		"k x": api.ErrName, "t.k k": api.ErrName, "z x": api.ErrName, "t.k z": api.ErrName, "t.x u.x": api.ErrName, "u.b t.b": api.ErrName, "v.c1 x": api.ErrName, "t.k v.c1": api.ErrName, "z.k u.k": api.ErrName, "t.t u.k": api.ErrName,
		"t.k t.k": api.ErrType, "t.k b": api.ErrType, "x u.k": api.ErrType, "x x": api.ErrType, "u.s y": api.ErrType,
		"t.k y": api.ErrType, "x t.s": api.ErrType, "b x": api.ErrType,
	} {
		wantError(t, "(from t (join u "+s+"))", want)
		wantError(t, "(from u (join t "+s+"))", want)
		// What is wrong of the join is told ahead of all that is behind it.
		if want != api.OK {
			wantError(t, "(from t (join u "+s+") (where z) (group t.s t.s) (get z))", want)
		}
	}
	// An error of Left ahead of one of Right, and both ahead of their kinds.
	wantError(t, "(from t (join u z z))", api.ErrName)
	wantError(t, "(from t (join u t.k k) (get (+ s 1)))", api.ErrName)
}

func TestBindWhere(t *testing.T) { // 4.2
	for s, want := range map[string]api.Errno{
		"b": api.OK, "null": api.OK, "true": api.OK, "(= k 3)": api.OK, "(= t.k x)": api.OK, "(null? s)": api.OK, "(not null)": api.OK,
		"z": api.ErrName, "u.k": api.ErrName, "z.k": api.ErrName, "(= s z)": api.ErrName, "(= (+ s 1) z)": api.ErrName, "(and b (or b t.z))": api.ErrName,
		"s": api.ErrType, "k": api.ErrType, "3": api.ErrType, "\"\"": api.ErrType, "(neg null)": api.ErrType, "(length s)": api.ErrType, "(= s 3)": api.ErrType, "(and b k)": api.ErrType, "(not k)": api.ErrType, "(< b k)": api.ErrType, "(null? (+ s 1))": api.ErrType, "(length null)": api.ErrType,
	} {
		if s == "(= t.k x)" {
			wantError(t, "(from t (join u t.k x) (where "+s+") (get x))", want)
			continue
		}
		wantError(t, "(from t (where "+s+"))", want)
		if want != api.OK {
			wantError(t, "(from t (where "+s+") (group s s) (get s))", want)
			wantError(t, "(from t (where "+s+") (get (+ s z)))", want)
		}
	}
	wantError(t, "(from t (join u t.k u.k) (where (= k 3)))", api.ErrName)
}

func TestBindGroups(t *testing.T) { // 4.2
	for s, want := range map[string]api.Errno{
		"s": api.OK, "s k b": api.OK, "t.s": api.OK,
		"z": api.ErrName, "s z": api.ErrName, "u.s": api.ErrName, "s u.s s": api.ErrName,
		"s s": api.ErrTwice, "s t.s": api.ErrTwice, "k s b k": api.ErrTwice, "s s z": api.ErrTwice,
	} {
		wantError(t, "(from t (group "+s+") (get (count)))", want)
		if want != api.OK {
			wantError(t, "(from t (group "+s+") (get (+ s 1)))", want)
		}
	}
	wantError(t, "(from t (join u t.k u.k) (group s) (get (count)))", api.ErrName)
	wantError(t, "(from t (join u t.k u.k) (group t.s u.s) (get u.s t.s))", api.OK)
	wantError(t, "(from v (group c1 c2 c3 c4 c5 c6 c7 c8) (get c8))", api.OK)
}

func TestBindItems(t *testing.T) { // 4.2
	for s, want := range map[string]api.Errno{
		"k": api.OK, "(+ k 1) s": api.OK, "(count)": api.OK, "(sum k)": api.OK, "(sum null)": api.OK, "(min s) (max b) (sum (length s))": api.OK,
		"z": api.ErrName, "u.k": api.ErrName, "(+ s z)": api.ErrName, "(sum z)": api.ErrName, "(sum (+ s z))": api.ErrName, "k z (+ s 1)": api.ErrName,
		"(+ s 1)": api.ErrType, "(+ s 1) z": api.ErrType, "(sum s)": api.ErrType, "(sum b)": api.ErrType, "(sum (= k k))": api.ErrType, "(min (neg s))": api.ErrType, "(max (neg b))": api.ErrType, "(sum s) z": api.ErrType,
		"k (count)": api.ErrName, "(count) k": api.ErrName, "(max k) (+ k 1)": api.ErrName, "1 (count)": api.ErrName, "null (count)": api.ErrName, "k (sum s)": api.ErrName, "(sum s) k": api.ErrType, "(+ s 1) (count)": api.ErrType,
	} {
		wantError(t, "(from t (get "+s+"))", want)
	}
	for s, want := range map[string]api.Errno{
		"s": api.OK, "t.s": api.OK, "s k s k (count)": api.OK, "(max b)": api.OK, "(max s)": api.OK,
		"b": api.ErrName, "s b": api.ErrName, "(neg k)": api.ErrName, "1": api.ErrName, "\"s\"": api.ErrName, "(= s s)": api.ErrName, "z": api.ErrName, "(neg s)": api.ErrType, "s (neg s) b": api.ErrType, "b (neg s)": api.ErrName,
	} {
		wantError(t, "(from t (group s k) (get "+s+"))", want)
	}
	wantError(t, "(from t (join u t.k x) (group y) (get y (count) (sum x)))", api.OK)
	wantError(t, "(from t (join u t.k x) (group y) (get k))", api.ErrName)
}

func TestBindWithoutItems(t *testing.T) { // 4.2: one for each column, if these are not too many
	wantError(t, "(from v)", api.OK)
	wantError(t, "(from t (join v k c1))", api.ErrMany)
	wantError(t, "(from v (join t k c1))", api.ErrMany)
	wantError(t, "(from t (join v k c1) (get k))", api.OK)
	wantError(t, "(from t (join v k c1) (where z))", api.ErrName)
	wantError(t, "(from t (join v k c1) (where k))", api.ErrType)
	l := catalog()
	l[1].Cols = append(l[1].Cols, column("last", api.KindInt))
	b, why := bind.Bind(read(t, "(from t (join u t.k u.k))"), l)
	if why != api.OK || len(b.Items) != api.MaxItems || b.Names[7] != "last" {
		t.Errorf("as many columns as may be: %+v, error %d", b, why)
	}
	l[1].Cols = append(l[1].Cols, column("more", api.KindInt))
	if _, why := bind.Bind(read(t, "(from t (join u t.k u.k))"), l); why != api.ErrMany {
		t.Error("one column too many: error", why)
	}
}

func TestBindByHand(t *testing.T) { // 4.2: parse.Check's error, then that of the catalog
	good, bad := api.Query{Table: "t"}, api.Query{Table: "t", Join: "t"}
	twice := append(catalog(), catalog()[0])
	for i, x := range []struct {
		q    api.Query
		l    []api.Table
		want api.Errno
	}{
		{good, catalog(), api.OK}, {bad, catalog(), api.ErrSyntax}, {bad, twice, api.ErrSyntax}, {good, twice, api.ErrTwice},
		{api.Query{Table: "z"}, twice, api.ErrTwice}, {good, nil, api.ErrName}, {api.Query{}, nil, api.ErrSyntax},
		{api.Query{Table: "t", Where: steps(), Group: names(), Items: items()}, catalog(), api.OK},
		{api.Query{Table: "t", Where: steps(at(0))}, catalog(), api.ErrSyntax},
		{api.Query{Table: "t", Items: items(api.Item{Agg: api.AggCount, Expr: steps()})}, catalog(), api.OK},
		{api.Query{Table: "t", Items: items(api.Item{Agg: api.AggEnd, Expr: steps(whole(1))})}, catalog(), api.ErrSyntax},
		{api.Query{Table: "t", Group: names("s")}, catalog(), api.ErrSyntax},
		{api.Query{Table: "t", Items: slices.Repeat(items(plain(col("k"))), api.MaxItems+1)}, catalog(), api.ErrSyntax},
	} {
		if b, why := bind.Bind(x.q, x.l); why != x.want || (why == api.OK) != bind.Right(b, x.l) || why != api.OK && !reflect.DeepEqual(b, api.Bound{}) {
			t.Errorf("Bind, %d: %+v, error %d", i, b, why)
		}
	}
	// Names as long as may be, which no atom has together.
	long, name := strings.Repeat("t", 64), strings.Repeat("c", 64)
	l := []api.Table{{Name: long, Cols: []api.Col{column(name, api.KindBool)}}}
	b, why := bind.Bind(api.Query{Table: long, Where: steps(col(long + "." + name))}, l)
	if why != api.OK || b.Where[0] != at(0) || b.Names[0] != name {
		t.Errorf("Bind of long names: %+v, error %d", b, why)
	}
}
