package front_test

import (
	"fmt"
	"math/rand/v2"
	"reflect"
	"slices"
	"strings"
	"testing"

	"potsherd/api"
	"potsherd/front"
	"potsherd/lex"
	"potsherd/value"
)

func pick[T any](r *rand.Rand, l ...T) T { return l[r.IntN(len(l))] }

func whole(n int64) api.Value { return api.Value{Kind: api.KindInt, N: n} }

func text(s string) api.Value { return api.Value{Kind: api.KindText, S: s} }

func truth(b bool) api.Value { return api.Value{Kind: api.KindBool, B: b} }

// tidy is a new x whose empty lists are nil.
func tidy(x any) any {
	var walk func(v reflect.Value) reflect.Value
	walk = func(v reflect.Value) reflect.Value {
		out := reflect.New(v.Type()).Elem()
		out.Set(v)
		switch v.Kind() {
		case reflect.Slice:
			out.SetZero()
			for i := range v.Len() {
				out.Set(reflect.Append(out, walk(v.Index(i))))
			}
		case reflect.Struct:
			for i := range v.NumField() {
				out.Field(i).Set(walk(v.Field(i)))
			}
		}
		return out
	}
	return walk(reflect.ValueOf(x)).Interface()
}

// alike tells whether two things are, nil and empty lists being so.
func alike(a, b any) bool { return reflect.DeepEqual(tidy(a), tidy(b)) }

func TestShowRow(t *testing.T) { // 20.1
	for _, x := range []struct {
		row  api.Row
		want string
	}{
		{nil, "()"},
		{api.Row{}, "()"},
		{api.Row{{}}, "(null)"},
		{api.Row{whole(0)}, "(0)"},
		{api.Row{{}, truth(true), truth(false), whole(7), text("a")}, `(null true false 7 "a")`},
		{api.Row{whole(-1 << 63), whole(1<<63 - 1), whole(-1)}, "(-9223372036854775808 9223372036854775807 -1)"},
		{api.Row{text(""), text("é"), text("a b"), text("(")}, `("" "é" "a b" "(")`},
		{api.Row{text("\""), text("\\"), text("\n\t\x00\x1f\x7f")}, `("\"" "\\" "\u{a}\u{9}\u{0}\u{1f}\u{7f}")`},
		{api.Row{text("\u0080"), text("\ufffd"), text("\U0010ffff")}, "(\"\u0080\" \"\ufffd\" \"\U0010ffff\")"},
		{api.Row{text(strings.Repeat("x", 256))}, `("` + strings.Repeat("x", 256) + `")`},
		{api.Row{text(strings.Repeat("\x01", 256))}, `("` + strings.Repeat(`\u{1}`, 256) + `")`},
		{api.Row{text(strings.Repeat("x", 257)), whole(1)}, "(? 1)"},
		{api.Row{text("\xff"), text("a\xc3"), text("b")}, `(? ? "b")`},
		{api.Row{{Kind: api.KindCount}, {Kind: 9}, {Kind: 255, S: "x"}}, "(? ? ?)"},
		{api.Row{{B: true, N: 7, S: "x"}, {Kind: api.KindInt, B: true, N: 7, S: "\xff"}, {Kind: api.KindBool, N: 7, S: "x"}, {Kind: api.KindText, B: true, N: 7, S: "x"}}, `(null 7 false "x")`},
		{slices.Repeat(api.Row{{}}, 1000), "(" + strings.Repeat("null ", 999) + "null)"},
	} {
		if got := front.ShowRow(x.row); got != x.want {
			t.Errorf("ShowRow(%v): %s; not %s", x.row, got, x.want)
		}
	}
}

func ks(kinds ...api.Kind) (l []api.Col) {
	for i, k := range kinds {
		l = append(l, api.Col{Name: string(rune('k' + i)), Kind: k})
	}
	return l
}

func TestReadTable(t *testing.T) { // 20.1
	all := ks(api.KindInt, api.KindText, api.KindBool)
	for s, want := range map[string]api.Table{
		`(table t ((k int)))`:            {Name: "t", Cols: ks(api.KindInt)},
		`(table "t" (("k" int)))`:        {Name: "t", Cols: ks(api.KindInt)},
		`(table t ((k int)) (7))`:        {Name: "t", Cols: ks(api.KindInt), Rows: []api.Row{{whole(7)}}},
		`(table t((k int))(7)(7)(null))`: {Name: "t", Cols: ks(api.KindInt), Rows: []api.Row{{whole(7)}, {whole(7)}, {{}}}},
		`(table t ((k int) (l text) (m bool)) (-1 "é" true) (null null null) (9223372036854775807 "" false))`: {Name: "t", Cols: all, Rows: []api.Row{{whole(-1), text("é"), truth(true)}, {{}, {}, {}}, {whole(1<<63 - 1), text(""), truth(false)}}},
		"\n( ;a remark)\ntable\tt\r((k int)(l text)(m bool)));":                                               {Name: "t", Cols: all},
		`(table table ((null int) (int text) (table bool)))`:                                                  {Name: "table", Cols: []api.Col{{Name: "null", Kind: api.KindInt}, {Name: "int", Kind: api.KindText}, {Name: "table", Kind: api.KindBool}}},
		`(table "a b\n\"" ((+ int) ("7" int)))`:                                                               {Name: "a b\n\"", Cols: []api.Col{{Name: "+", Kind: api.KindInt}, {Name: "7", Kind: api.KindInt}}},
		`(table é ((ü text)) ("\u{e9}\t\\"))`:                                                                 {Name: "é", Cols: []api.Col{{Name: "ü", Kind: api.KindText}}, Rows: []api.Row{{text("é\t\\")}}},
		`(table t ((k int))` + strings.Repeat(" (1)", 64) + `)`:                                               {Name: "t", Cols: ks(api.KindInt), Rows: slices.Repeat([]api.Row{{whole(1)}}, 64)},
		`(table ` + strings.Repeat("n", 64) + ` ((` + strings.Repeat("c", 64) + ` int)))`:                     {Name: strings.Repeat("n", 64), Cols: []api.Col{{Name: strings.Repeat("c", 64), Kind: api.KindInt}}},
	} {
		if got, why, at := front.ReadTable(s); why != api.OK || at != 0 || !alike(got, want) {
			t.Errorf("ReadTable(%q): %v, error %d, place %d; not %v", s, got, why, at, want)
		}
	}
}

func TestReadNoTable(t *testing.T) { // 20.1
	for _, x := range []struct {
		s   string
		why api.Errno
		at  int
	}{
		{"", api.ErrSyntax, 0},
		{"é ;", api.ErrSyntax, 0},
		{"  ", api.ErrSyntax, 2},
		{";éé", api.ErrSyntax, 3},
		{"(", api.ErrSyntax, 1},
		{"table", api.ErrSyntax, 0},
		{"()", api.ErrSyntax, 1},
		{"(tables t ((k int)))", api.ErrSyntax, 1},
		{`("table" t ((k int)))`, api.ErrSyntax, 1},
		{"(Table t ((k int)))", api.ErrSyntax, 1},
		{"(table 7 ((k int)))", api.ErrSyntax, 7},
		{"(table (t) ((k int)))", api.ErrSyntax, 7},
		{"(table)", api.ErrSyntax, 6},
		{"(table t)", api.ErrSyntax, 8},
		{"(table é)", api.ErrSyntax, 8},
		{"(table t k int)", api.ErrSyntax, 9},
		{"(table t (k int))", api.ErrSyntax, 10},
		{"(table t ((7 int)))", api.ErrSyntax, 11},
		{"(table t ((k)))", api.ErrSyntax, 12},
		{"(table t ((k real)))", api.ErrSyntax, 13},
		{"(table t ((k null)))", api.ErrSyntax, 13},
		{`(table t ((k "int")))`, api.ErrSyntax, 13},
		{"(table t ((k 7)))", api.ErrSyntax, 13},
		{"(table t ((k int text)))", api.ErrSyntax, 17},
		{"(table t ((k int))", api.ErrSyntax, 18},
		{"(table t ((k int)) 7)", api.ErrSyntax, 19},
		{"(table t ((k int)) (a))", api.ErrSyntax, 20},
		{"(table t ((k int)) (True))", api.ErrSyntax, 20},
		{"(table t ((k int)) ((1)))", api.ErrSyntax, 20},
		{"(table t ((k int)) (1)", api.ErrSyntax, 22},
		{"(table t ((k int)) (1", api.ErrSyntax, 21},
		{"(table t ((k int)) (1)) ", api.OK, 0},
		{"(table t ((k int)) (1)))", api.ErrSyntax, 23},
		{"(table t ((k int))) é", api.ErrSyntax, 20},
		{`(table t ((k int))) "`, api.ErrSyntax, 20}, // lex.Lex's
		{"(table t ((k int)) (01))", api.ErrSyntax, 20},
		{"é é é \xff (", api.ErrUtf, 6},
		{"7 (\"" + strings.Repeat("x", 257) + "\"", api.ErrLong, 3},
		{"(table t ((k int)))" + strings.Repeat(" ", 2048-19), api.OK, 0},
		{"(table t ((k int)))" + strings.Repeat(" ", 2049-19), api.ErrLong, 0},
		{"(table t ())", api.ErrMany, 0},
		{"(table t () ())", api.ErrMany, 0},
		{`(table "" ((k int)))`, api.ErrLong, 0},
		{`(table "` + strings.Repeat("x", 65) + `" ((k int)))`, api.ErrLong, 0},
		{`(table t (("" int)))`, api.ErrLong, 0},
		{"(table t ((k int) (k text)))", api.ErrTwice, 0},
		{"(table t ((a int) (b int) (c int) (d int) (e int) (f int) (g int) (h int)))", api.OK, 0},
		{"(table t ((a int) (b int) (c int) (d int) (e int) (f int) (g int) (h int) (i int)))", api.ErrMany, 0},
		{"(table t ((k int)) ())", api.ErrMany, 0},
		{"(table t ((k int)) (1 2))", api.ErrMany, 0},
		{"(table t ((k int)) (true))", api.ErrType, 0},
		{`(table t ((k int)) ("1"))`, api.ErrType, 0},
		{"(table t ((k int))" + strings.Repeat(" (1)", 65) + ")", api.ErrMany, 0},
	} {
		got, why, at := front.ReadTable(x.s)
		if why != x.why || at != x.at {
			t.Errorf("ReadTable(%.99q): error %d, place %d; not %d, %d", x.s, why, at, x.why, x.at)
		}
		if why != api.OK && !alike(got, api.Table{}) {
			t.Errorf("ReadTable(%.99q): %v, with error %d", x.s, got, why)
		}
	}
}

// edge is a token that may come in a state, and the state behind it.
type edge struct {
	may  func(t api.Token) bool
	next int
}

func is(kind api.TokenKind, words ...string) func(t api.Token) bool {
	return func(t api.Token) bool { return t.Kind == kind && (len(words) == 0 || slices.Contains(words, t.Text)) }
}

func either(l ...func(t api.Token) bool) func(t api.Token) bool {
	return func(t api.Token) bool {
		return slices.ContainsFunc(l, func(may func(api.Token) bool) bool { return may(t) })
	}
}

const lastState = 10

// states are tables' texts once more, token by token: what may come next.
func states() [][]edge {
	opens, closes := is(api.TokenOpen), is(api.TokenClose)
	name := either(is(api.TokenAtom), is(api.TokenText))
	some := either(is(api.TokenInt), is(api.TokenText), is(api.TokenAtom, "null", "true", "false"))
	return [][]edge{
		{{opens, 1}},
		{{is(api.TokenAtom, "table"), 2}},
		{{name, 3}},
		{{opens, 4}},
		{{opens, 5}, {closes, 8}},
		{{name, 6}},
		{{is(api.TokenAtom, "bool", "int", "text"), 7}},
		{{closes, 4}},
		{{opens, 9}, {closes, 10}},
		{{some, 9}, {closes, 8}},
		{},
	}
}

// place is where s is no table's text any more; below 0, if it is one.
func place(s string) int {
	tokens, _, _ := lex.Lex(s)
	state := 0
	for _, x := range tokens {
		i := slices.IndexFunc(states()[state], func(e edge) bool { return e.may(x) })
		if i < 0 {
			return x.At
		}
		state = states()[state][i].next
	}
	if state == lastState {
		return -1
	}
	return value.Runes(s)
}

// holdSyntax says where s is no table's text, and tells whether it is one.
func holdSyntax(t *testing.T, s string) bool {
	t.Helper()
	_, why, at := front.ReadTable(s)
	want := place(s)
	if isSyntax := why == api.ErrSyntax; isSyntax != (want >= 0) || isSyntax && at != want {
		t.Fatalf("ReadTable(%q): error %d, place %d; the place is %d", s, why, at, want)
	}
	return want < 0
}

// pieces are tokens as they are written, of each kind, and such that may come somewhere.
func pieces() []string {
	return []string{"(", ")", "table", "t", "é", `"t"`, `"a\u{e9}"`, `""`, "bool", "int", "text", "null", "true", "false", "7", "-1", "0", "real", `"int"`, `"table"`, `"null"`}
}

// joinTokens writes tokens with what may stand between them.
func joinTokens(l []string) string { return strings.Join(l, " ") }

func wholeTable() []string {
	return strings.Fields(`( table t ( ( k int ) ( "é" text ) ( m bool ) ) ( 7 "x" true ) ( null null false ) ( ) )`)
}

func TestTablesCutShort(t *testing.T) { // 20.1: at every token
	l := wholeTable()
	for n := range len(l) {
		s := joinTokens(l[:n])
		if _, why, at := front.ReadTable(s); why != api.ErrSyntax || at != value.Runes(s) {
			t.Errorf("ReadTable(%q): error %d, place %d", s, why, at)
		}
		holdSyntax(t, s)
	}
}

func TestTablesWithOtherTokens(t *testing.T) { // 20.1: with a token more, another one, one less
	l := wholeTable()
	right, wrong := 0, 0
	hold := func(l []string) {
		if holdSyntax(t, joinTokens(l)) {
			right++
		} else {
			wrong++
		}
	}
	for i := range len(l) + 1 {
		for _, p := range pieces() {
			hold(slices.Insert(slices.Clone(l), i, p))
			if i < len(l) {
				other := slices.Clone(l)
				other[i] = p
				hold(other)
			}
		}
		if i < len(l) {
			hold(slices.Delete(slices.Clone(l), i, i+1))
		}
	}
	if right < 100 || wrong < 500 {
		t.Errorf("%d are tables' texts, %d are not", right, wrong)
	}
}

func TestAnyTokens(t *testing.T) { // 20.1, P1
	r := rand.New(rand.NewPCG(20, 1))
	right := 0
	for range 4000 {
		var b strings.Builder
		state := 0
		for range r.IntN(60) {
			if state == lastState && r.IntN(5) > 0 {
				break
			}
			p := pick(r, pieces()...)
			if r.IntN(20) > 0 { // one that may come, if there is
				for range 50 {
					tokens, _, _ := lex.Lex(p)
					if i := slices.IndexFunc(states()[state], func(e edge) bool { return e.may(tokens[0]) }); i >= 0 {
						state = states()[state][i].next
						break
					}
					p = pick(r, pieces()...)
				}
			}
			b.WriteString(p + pick(r, " ", "\n", "\t \r", ";é)\n", " "))
		}
		if holdSyntax(t, b.String()) {
			right++
		}
	}
	if right < 100 {
		t.Errorf("%d are tables' texts", right)
	}
}

func TestShowTable(t *testing.T) { // 20.1
	for want, x := range map[string]api.Table{
		`(table "t" (("k" int)) (1) (null))`: {Name: "t", Cols: ks(api.KindInt), Rows: []api.Row{{whole(1)}, {{}}}},
		`(table "t" (("k" int)))`:            {Name: "t", Cols: ks(api.KindInt)},
		`(table "a \"é\"\u{a}" (("k" bool) ("l" text)) (true "\\") (false null))`: {Name: "a \"é\"\n", Cols: ks(api.KindBool, api.KindText), Rows: []api.Row{{truth(true), text("\\")}, {truth(false), {}}}},
		`(table "7" (("(" int) ("null" text)) (-7 ""))`:                           {Name: "7", Cols: []api.Col{{Name: "(", Kind: api.KindInt}, {Name: "null", Kind: api.KindText}}, Rows: []api.Row{{whole(-7), text("")}}},
	} {
		if got, why := front.ShowTable(x); why != api.OK || got != want {
			t.Errorf("ShowTable(%v): %s, error %d; not %s", x, got, why, want)
		}
	}
}

func TestShowNoTable(t *testing.T) { // 20.1
	for name, x := range map[string]struct {
		table api.Table
		why   api.Errno
	}{
		"nothing":           {api.Table{}, api.ErrLong},
		"no name":           {api.Table{Cols: ks(api.KindInt)}, api.ErrLong},
		"a long name":       {api.Table{Name: strings.Repeat("x", 65), Cols: ks(api.KindInt)}, api.ErrLong},
		"a bad name":        {api.Table{Name: "\xff", Cols: ks(api.KindInt)}, api.ErrUtf},
		"no columns":        {api.Table{Name: "t"}, api.ErrMany},
		"columns of one":    {api.Table{Name: "t", Cols: append(ks(api.KindInt), ks(api.KindInt)...)}, api.ErrTwice},
		"a column of nulls": {api.Table{Name: "t", Cols: ks(api.KindNull)}, api.ErrType},
		"too many rows":     {api.Table{Name: "t", Cols: ks(api.KindInt), Rows: make([]api.Row, 65)}, api.ErrMany},
		"a short row":       {api.Table{Name: "t", Cols: ks(api.KindInt), Rows: make([]api.Row, 1)}, api.ErrMany},
		"another kind":      {api.Table{Name: "t", Cols: ks(api.KindInt), Rows: []api.Row{{text("x")}}}, api.ErrType},
		"a long text":       {api.Table{Name: "t", Cols: ks(api.KindText), Rows: []api.Row{{text(strings.Repeat("x", 257))}}}, api.ErrLong},
		"a bad text":        {api.Table{Name: "t", Cols: ks(api.KindText), Rows: []api.Row{{text("\xff")}}}, api.ErrUtf},
	} {
		if got, why := front.ShowTable(x.table); why != x.why || got != "" {
			t.Errorf("%s: %q, error %d; not %d", name, got, why, x.why)
		}
	}
}

// someTable is a right one, if only by and large.
func someTable(r *rand.Rand) api.Table {
	name := func() string {
		return pick(r, "t", "u", "é", "a b", "\"", "\x00", "null", "table", "(", ")", "7", "-", ";", fmt.Sprint("n", r.IntN(99)), strings.Repeat("x", 64), strings.Repeat("é", 32), strings.Repeat("x", 65), "")
	}
	t := api.Table{Name: name()}
	for range r.IntN(5) {
		t.Cols = append(t.Cols, api.Col{Name: name(), Kind: pick(r, api.KindBool, api.KindInt, api.KindText)})
	}
	for range r.IntN(6) {
		var row api.Row
		for _, c := range t.Cols {
			row = append(row, pick(r, api.Value{}, someValue(r, c.Kind)))
		}
		t.Rows = append(t.Rows, row)
	}
	return t
}

func someValue(r *rand.Rand, k api.Kind) api.Value {
	switch k {
	case api.KindBool:
		return truth(r.IntN(2) == 0)
	case api.KindInt:
		return whole(pick(r, 0, 1, -1, 1<<63-1, -1<<63, r.Int64()))
	}
	return text(pick(r, "", "x", "é\n", "\"\\", "null", "(a ; b)", "\u0080\ufffd", strings.Repeat("\x1f", 40), fmt.Sprint(r.Int64())))
}

func TestTablesThereAndBack(t *testing.T) { // 20.5, P5
	r := rand.New(rand.NewPCG(20, 2))
	right := 0
	for range 20000 {
		x := someTable(r)
		s, why := front.ShowTable(x)
		if why != value.CheckTable(x) || (why == api.OK) != (s != "") {
			t.Fatalf("ShowTable(%v): %q, error %d", x, s, why)
		}
		if why != api.OK {
			continue
		}
		right++
		got, why, at := front.ReadTable(s)
		if len(s) > 2048 { // a text of so many bytes has no tokens
			if why != api.ErrLong || at != 0 {
				t.Fatalf("ReadTable of %d bytes: error %d, place %d", len(s), why, at)
			}
			continue
		}
		if why != api.OK || at != 0 || !alike(got, x) {
			t.Fatalf("ReadTable(%q): %v, error %d, place %d; not %v", s, got, why, at, x)
		}
	}
	if right < 5000 {
		t.Errorf("%d tables are right", right)
	}
}
