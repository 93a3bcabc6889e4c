package front_test

import (
	"math/rand/v2"
	"reflect"
	"runtime"
	"slices"
	"strings"
	"sync"
	"testing"
	"unsafe"

	"potsherd/api"
	"potsherd/front"
)

// span is a piece of memory.
type span struct{ from, to uintptr }

// memory is where v's lists, with the room behind them, and its texts lie.
func memory(v reflect.Value) (l []span) {
	switch v.Kind() {
	case reflect.String:
		if s := v.String(); s != "" {
			p := uintptr(unsafe.Pointer(unsafe.StringData(s)))
			l = append(l, span{p, p + uintptr(len(s))})
		}
	case reflect.Slice:
		if n := uintptr(v.Cap()) * v.Type().Elem().Size(); n > 0 {
			l = append(l, span{v.Pointer(), v.Pointer() + n})
		}
		for i := range v.Len() {
			l = append(l, memory(v.Index(i))...)
		}
	case reflect.Struct:
		for i := range v.NumField() {
			l = append(l, memory(v.Field(i))...)
		}
	}
	return l
}

// share tells whether two of these pieces lie over each other.
func share(l ...[]span) bool {
	all := slices.Concat(l...)
	slices.SortFunc(all, func(a, b span) int {
		if a.from < b.from {
			return -1
		}
		return 1
	})
	for i := range all {
		if i > 0 && all[i].from < all[i-1].to {
			return true
		}
	}
	return false
}

// given is what calls are handed.
type given struct {
	Row    api.Row
	Table  api.Table
	Text   string
	Orders []api.Order
	Script string
	Layout api.Layout
}

// walk makes a new v, of whose lists it is told what becomes; its texts are new ones.
func walk(v reflect.Value, list func(v reflect.Value) reflect.Value) reflect.Value {
	x := reflect.New(v.Type()).Elem()
	x.Set(v)
	switch v.Kind() {
	case reflect.String:
		x.SetString(strings.Clone(v.String()))
	case reflect.Slice:
		x.Set(list(v))
	case reflect.Struct:
		for i := range v.NumField() {
			x.Field(i).Set(walk(v.Field(i), list))
		}
	}
	return x
}

// roomy is a new x whose lists, even those without parts, have room behind them.
func roomy(x given) given {
	var list func(v reflect.Value) reflect.Value
	list = func(v reflect.Value) reflect.Value {
		l := reflect.MakeSlice(v.Type(), v.Len(), v.Len()+2)
		for i := range v.Len() {
			l.Index(i).Set(walk(v.Index(i), list))
		}
		return l
	}
	return walk(reflect.ValueOf(x), list).Interface().(given)
}

// behind is x with the room behind its lists.
func behind(x given) given {
	var list func(v reflect.Value) reflect.Value
	list = func(v reflect.Value) reflect.Value {
		whole := v.Slice3(0, v.Cap(), v.Cap())
		l := reflect.MakeSlice(v.Type(), v.Cap(), v.Cap())
		for i := range v.Cap() {
			l.Index(i).Set(walk(whole.Index(i), list))
		}
		return l
	}
	return walk(reflect.ValueOf(x), list).Interface().(given)
}

func givens() []given {
	script := "tick\nround\nload (table t ((k int) (s text)) (7 \"é\"))\nround\nround\nask (from t)\nround\nround\nask ?\ncrash 1 0\nfuse 1 3\n"
	orders := []api.Order{{Kind: api.OrderAsk, Text: "(from t)"}, {Kind: api.OrderAsk, Text: "(from t)"}, {Kind: api.OrderCrash, N: 1, Keep: 2}}
	table := api.Table{Name: "t", Cols: ks(api.KindInt, api.KindText), Rows: []api.Row{{whole(1), text("one text")}, {{}, text("one text")}, {{}, {}}}}
	return []given{
		{api.Row{whole(1), text("a text"), {}, {Kind: 9}}, table, `(table t ((k int) (l text)) (1 "one text") (2 "one text") (null null))`, orders, script, small()},
		{nil, api.Table{Name: "t", Cols: ks(api.KindBool)}, "(table t ((k int)))", nil, "tick\n", small()},
		{api.Row{}, api.Table{}, "(table t", []api.Order{{}}, "tick", small()},
		{api.Row{text("x")}, api.Table{Name: "x", Cols: ks(api.KindText), Rows: []api.Row{{}}}, "", orders[:1], "ask x\n", api.Layout{}},
		{api.Row{{}}, table, "(table \"t\" ())", []api.Order{{Kind: api.OrderTick}}, "", wide()},
	}
}

// answer is what a call answered.
type answer struct {
	Text   string
	Table  api.Table
	Orders []api.Order
	Why    api.Errno
	At     int
}

func answers(x given) []answer {
	l := make([]answer, 6)
	l[0].Text = front.ShowRow(x.Row)
	l[1].Table, l[1].Why, l[1].At = front.ReadTable(x.Text)
	l[2].Text, l[2].Why = front.ShowTable(x.Table)
	l[3].Orders, l[3].Why, l[3].At = front.Parse(x.Script)
	l[4].Text, l[4].Why = front.Print(x.Orders)
	l[5].Text, l[5].Why, l[5].At = front.Run(x.Layout, x.Script)
	return l
}

func TestNewMemory(t *testing.T) { // 20.4
	for i, x := range givens() {
		x = roomy(x)
		theirs := memory(reflect.ValueOf(x))
		if share(theirs) {
			t.Fatalf("%d: two parts of what is handed in share memory", i)
		}
		earlier := answers(x)
		for k, a := range answers(x) {
			own := memory(reflect.ValueOf(a))
			if share(own) {
				t.Errorf("%d: two parts of answer %d share memory", i, k)
			} else if share(own, theirs) {
				t.Errorf("%d: answer %d shares memory with what was handed in", i, k)
			} else if share(own, memory(reflect.ValueOf(earlier[k]))) {
				t.Errorf("%d: answer %d shares memory with an earlier one", i, k)
			}
			runtime.KeepAlive(a)
		}
		runtime.KeepAlive(x)
		runtime.KeepAlive(earlier)
	}
}

func TestNothingIsChanged(t *testing.T) { // 20.4, P3
	for i, x := range givens() {
		x = roomy(x)
		before := behind(x)
		first := answers(x)
		if after := behind(x); !reflect.DeepEqual(after, before) {
			t.Errorf("%d: what was handed in was changed: %v; not %v", i, after, before)
		}
		if again := answers(tidy(x).(given)); !reflect.DeepEqual(again, first) {
			t.Errorf("%d: what is answered hangs on more than the arguments: %v; not %v", i, again, first)
		}
	}
}

func TestSideBySide(t *testing.T) { // 20.4, P3: as nothing is changed, many may ask at once
	for _, x := range givens() {
		want := answers(x)
		var g sync.WaitGroup
		for range 4 {
			g.Go(func() {
				if got := answers(x); !reflect.DeepEqual(got, want) {
					t.Errorf("%v; not %v", got, want)
				}
			})
		}
		g.Wait()
	}
}

func TestNilAndEmptyAreAlike(t *testing.T) { // P1
	none := given{Table: api.Table{Name: "t", Cols: ks(api.KindInt)}}
	empty := given{Row: api.Row{}, Table: api.Table{Name: "t", Cols: ks(api.KindInt), Rows: []api.Row{}}, Orders: []api.Order{}}
	if a, b := answers(none), answers(empty); !reflect.DeepEqual(a, b) || a[2].Why != api.OK || a[4].Why != api.OK {
		t.Errorf("%v; not %v", a, b)
	}
	none.Table.Cols, empty.Table.Cols = nil, []api.Col{}
	if a, b := answers(none), answers(empty); !reflect.DeepEqual(a, b) || a[2].Why != api.ErrMany {
		t.Errorf("%v; not %v", a, b)
	}
}

// someText is any bytes, or what is nearly a text of this program.
func someText(r *rand.Rand) string {
	l := []string{"tick\n", "round\n", "ask (from t)\n", "load (table t ((k int)) (1))\n", "crash 1 0\n", "restart 1\n", "fuse 0 2\n", "deliver 0\n", "(table t ((k int) (s text)) (7 \"é\") (null \"\"))"}
	var b strings.Builder
	for range r.IntN(4) {
		b.WriteString(pick(r, l...))
	}
	s := []byte(b.String())
	for range r.IntN(4) {
		if len(s) == 0 || r.IntN(3) == 0 {
			s = slices.Insert(s, r.IntN(len(s)+1), byte(r.IntN(256)))
			continue
		}
		i := r.IntN(len(s))
		s = pick(r, slices.Delete(slices.Clone(s), i, i+1), slices.Insert(slices.Clone(s), i, s[i]), s[:i], append(s[i:], s[:i]...))
	}
	return string(s)
}

func TestAnything(t *testing.T) { // P1, P2, P3, P4
	before := runtime.NumGoroutine()
	r := rand.New(rand.NewPCG(20, 6))
	seen := make(map[api.Errno]int)
	for range 3000 {
		x := given{Row: api.Row{someValue(r, api.Kind(r.IntN(5))), {Kind: api.Kind(r.IntN(256)), S: someText(r)}}, Table: someTable(r), Text: someText(r), Script: someText(r), Layout: api.Layout{Nodes: pick(r, 2, 3, 4, r.IntN(10)), Shards: pick(r, 1, 2, r.IntN(10)), Replicas: 1}}
		for range r.IntN(4) {
			x.Orders = append(x.Orders, someOrder(r))
		}
		l := answers(x)
		if again := answers(x); !reflect.DeepEqual(again, l) {
			t.Fatalf("two answers: %v; %v", l, again)
		}
		for i, a := range l {
			if a.Why != api.OK && (a.Text != "" || len(a.Orders) > 0 || !alike(a.Table, api.Table{})) {
				t.Fatalf("of %v: answer %d is %v", x, i, a)
			}
			if a.Why == api.OK && a.At != 0 {
				t.Fatalf("of %v: answer %d has a place: %v", x, i, a)
			}
			seen[a.Why]++
		}
		if !strings.HasPrefix(l[0].Text, "(") || !strings.HasSuffix(l[0].Text, ")") || strings.Contains(l[0].Text, "\n") {
			t.Fatalf("ShowRow(%v): %q", x.Row, l[0].Text)
		}
		if l[5].Why == api.OK && strings.Count(l[5].Text, "\n") < len(l[3].Orders) {
			t.Fatalf("Run(%q): %q", x.Script, l[5].Text)
		}
	}
	for _, why := range []api.Errno{api.OK, api.ErrRange, api.ErrSyntax, api.ErrUtf, api.ErrMany, api.ErrTwice} {
		if seen[why] < 20 {
			t.Errorf("error %d was seen %d times", why, seen[why])
		}
	}
	if n := runtime.NumGoroutine(); n > before { // an earlier test's own may have ended meanwhile
		t.Errorf("%d goroutines, and %d before", n, before)
	}
}
