package value_test

import (
	"fmt"
	"reflect"
	"runtime"
	"strings"
	"testing"

	"potsherd/api"
	"potsherd/value"
)

// oddRows are rows of wrong values of all kinds, and of right ones, with room behind them.
func oddRows() []api.Row {
	big := strings.Repeat("\xff日", 1<<16)
	l := make([]api.Row, 0, 100)
	l = append(l, nil, api.Row{}, make(api.Row, 1000))
	for k := range 256 {
		for _, s := range []string{"", "\xff", big} {
			l = append(l, api.Row{{Kind: api.Kind(k), B: k%2 == 1, N: int64(k) << 56, S: s}})
		}
	}
	return l
}

// askAll calls everything of the package with what it is given, and tells all that was answered.
func askAll(l []api.Row) string {
	var out strings.Builder
	cols := make([]api.Col, 0, len(l))
	for _, r := range l {
		for _, v := range r {
			cols = append(cols, api.Col{Name: v.S, Kind: v.Kind})
			fmt.Fprintln(&out, value.Check(v), value.Hash(v), value.Runes(v.S), value.CheckRow(r, []api.Col{{Name: v.S, Kind: v.Kind}}))
			a, why := value.Add(v.N, v.N)
			s, why1 := value.Sub(v.N, ^v.N)
			m, why2 := value.Mul(v.N, v.N)
			fmt.Fprintln(&out, a, why, s, why1, m, why2)
		}
		fmt.Fprintln(&out, value.CompareRows(r, l[0]), value.CheckTable(api.Table{Name: "t", Cols: cols[:1:1], Rows: []api.Row{r}}))
	}
	for i := range cols {
		fmt.Fprintln(&out, value.CheckCols(cols[i:]), value.CheckCols(cols[i:i+1]))
	}
	for _, r := range value.Sort(l) {
		fmt.Fprintln(&out, len(r), len(r) > 0 && value.Check(r[0]) == api.OK)
	}
	fmt.Fprintln(&out, value.SameBag(l, l), value.SameBag(l, nil), value.SameBag(l[1:], l[:len(l)-1]), value.CheckTable(api.Table{Rows: l}))
	return out.String()
}

func TestAllArguments(t *testing.T) { // P1, P3, P4
	before := runtime.NumGoroutine()
	l := oddRows()
	first := askAll(l)
	if askAll(oddRows()[:len(l):len(l)]) != first {
		t.Error("what is answered hangs on more than the arguments")
	}
	if n := runtime.NumGoroutine(); n > before { // an earlier test's own may have ended meanwhile
		t.Errorf("%d goroutines, and %d before", n, before)
	}
	if !reflect.DeepEqual(l, oddRows()) {
		t.Error("what was handed in is changed")
	}
}

func TestNewMemory(t *testing.T) { // 1.3, 1.1
	given := func() []api.Row {
		all := []api.Row{{whole(3), {}}, {whole(1), {}}, {whole(2), {}}, {whole(0), {}}}
		for i := range all {
			all[i] = all[i][:1] // with room behind, which nobody may write to either
		}
		return all
	}
	behind := func(l []api.Row) string {
		s := ""
		for _, r := range l {
			s += fmt.Sprint(r[:2])
		}
		return s
	}
	l := given()
	a, b := value.Sort(l[:3]), value.Sort(l[:3])
	value.SameBag(l[:3], l[1:])
	if behind(l) != behind(given()) {
		t.Fatal("what was handed in is changed:", behind(l))
	}
	for i := range a {
		a[i][0] = text("x")
		a[i] = append(a[i], text("y"))
		_ = append(a[i][:1], text("z"))
	}
	if behind(l) != behind(given()) {
		t.Error("an answer shares memory with an argument:", behind(l))
	}
	if fmt.Sprint(b) != "[[{2 false 1 }] [{2 false 2 }] [{2 false 3 }]]" {
		t.Error("an answer shares memory with another one:", b)
	}
	for i := range l {
		l[i][0] = text("x")
	}
	if fmt.Sprint(b) != "[[{2 false 1 }] [{2 false 2 }] [{2 false 3 }]]" {
		t.Error("an answer hangs on what became of an argument:", b)
	}
}

func TestRowsOfAnAnswerShareNone(t *testing.T) { // 1.3: one row handed in twice is two rows in the answer
	r := api.Row{whole(1)}
	l := value.Sort([]api.Row{r, r})
	l[0][0] = whole(2)
	_ = append(l[0], whole(9))
	if l[1][0] != whole(1) || r[0] != whole(1) {
		t.Error("rows of an answer share memory:", l, r)
	}
}
