package value_test

import (
	"fmt"
	"reflect"
	"slices"
	"strings"
	"testing"
	"unicode/utf8"

	"potsherd/api"
	"potsherd/value"
)

// rising are values, right and wrong ones, each list alike, and below the next.
func rising() [][]api.Value {
	return [][]api.Value{
		{{}, {N: 7}, {B: true}, {S: "a"}},
		{boolean(false), {Kind: api.KindBool, N: 7}},
		{boolean(true), {Kind: api.KindBool, B: true, S: "a"}},
		{whole(-1 << 63)},
		{whole(-1)},
		{whole(0), {Kind: api.KindInt, B: true}},
		{whole(1)},
		{whole(1<<63 - 1)},
		{text(""), {Kind: api.KindText, N: 7}},
		{text("\x00")},
		{text("a")},
		{text("a\x00")},
		{text("aé")},
		{text("b")},
		{text("é")},
		{text("日")},
		{text("日本")},
		{text("\uE000")},
		{text("\uFFFD"), text("\xff"), text("\xc3"), text("\xfe")},
		{text("\uFFFDa"), text("\xffa"), text("\xc3a")},
		{text("\uFFFD\uFFFD"), text("\xff\xfe"), text("\xe6\x97")},
		{text("\U00010000")},
		{text("\U0010FFFF")},
		{{Kind: api.KindCount}, {Kind: api.KindCount, N: 1}},
		{{Kind: 255}, {Kind: 255, S: "a"}},
	}
}

func sign(n int) int { return max(-1, min(1, n)) }

func TestCompare(t *testing.T) { // 1.2, 1.4
	l := rising()
	for i, as := range l {
		for j, bs := range l {
			for _, a := range as {
				for _, b := range bs {
					if c := value.Compare(a, b); c != sign(i-j) {
						t.Errorf("Compare(%v, %v) = %d", a, b, c)
					}
				}
			}
		}
	}
}

func TestCompareTextsByRunes(t *testing.T) { // 1.2
	parts := []string{"", "a", "\x7f", "\u0080", "é", "\xc3", "\xa9", "日", "\xe6\x97", "\xff", "\uFFFD", "\uFFFC", "\uFFFE", "\U0001F600", "\xf0\x9f"}
	var texts []string
	for _, a := range parts {
		for _, b := range parts {
			texts = append(texts, a+b, a+"x"+b)
		}
	}
	for _, a := range texts {
		for _, b := range texts {
			if c := value.Compare(text(a), text(b)); c != slices.Compare([]rune(a), []rune(b)) {
				t.Fatalf("Compare(%q, %q) = %d", a, b, c)
			}
		}
		if value.Runes(a) != utf8.RuneCountInString(a) {
			t.Errorf("Runes(%q) = %d", a, value.Runes(a))
		}
	}
}

func TestOrderOfThree(t *testing.T) { // 1.4
	var all []api.Value
	for _, l := range rising() {
		all = append(all, l...)
	}
	for _, a := range all {
		for _, b := range all {
			if value.Compare(a, b) != -value.Compare(b, a) {
				t.Fatalf("Compare(%v, %v) is not turned round", a, b)
			}
			for _, c := range all {
				if value.Compare(a, b) <= 0 && value.Compare(b, c) <= 0 && value.Compare(a, c) > 0 {
					t.Fatalf("%v, %v and %v in a row", a, b, c)
				}
			}
		}
	}
}

func TestCompareRows(t *testing.T) { // 1.2, 1.4
	for i, x := range []struct {
		a, b api.Row
		want int
	}{
		{nil, nil, 0},
		{nil, api.Row{}, 0},
		{nil, api.Row{{}}, -1},
		{api.Row{whole(1)}, api.Row{whole(1)}, 0},
		{api.Row{whole(1)}, api.Row{whole(1), {}}, -1},
		{api.Row{whole(1), {}}, api.Row{whole(2)}, -1},
		{api.Row{whole(1), text("b")}, api.Row{whole(1), text("a")}, 1},
		{api.Row{whole(1), text("b")}, api.Row{whole(2), text("a")}, -1},
		{api.Row{{}, {}, {}}, api.Row{boolean(false)}, -1},
		{api.Row{{N: 1}}, api.Row{{N: 2}}, 0},
	} {
		if c := value.CompareRows(x.a, x.b); c != x.want {
			t.Errorf("CompareRows, %d: %d, not %d", i, c, x.want)
		}
		if c := value.CompareRows(x.b, x.a); c != -x.want {
			t.Errorf("CompareRows, %d, turned round: %d, not %d", i, c, -x.want)
		}
	}
}

func TestRunes(t *testing.T) { // 1.2
	for s, n := range map[string]int{"": 0, "a": 1, "é": 1, "é日": 2, "\xff": 1, "\xff\xfe": 2, "\xe6\x97": 2, "\xed\xa0\x80": 3, "\uFFFD": 1, "\x00": 1, strings.Repeat("日", 5000): 5000} {
		if got := value.Runes(s); got != n {
			t.Errorf("Runes(%q) = %d", s, got)
		}
	}
}

func TestSort(t *testing.T) { // 1.2
	got := value.Sort([]api.Row{{whole(2)}, {text("a")}, nil, {whole(2), {}}, {{}}, {whole(-1)}, {boolean(true)}})
	want := "[[] [{0 false 0 }] [{1 true 0 }] [{2 false -1 }] [{2 false 2 }] [{2 false 2 } {0 false 0 }] [{3 false 0 a}]]"
	if fmt.Sprint(got) != want {
		t.Error("Sort:", got)
	}
	if len(value.Sort(nil)) != 0 || len(value.Sort([]api.Row{})) != 0 {
		t.Error("Sort of none")
	}
}

func TestSortIsStable(t *testing.T) { // 1.2: rows alike by the order, but not by all fields, stay as they came
	var l []api.Row
	for i := range 200 {
		l = append(l, api.Row{whole(int64(i % 3)), {N: int64(i)}})
	}
	got := value.Sort(l)
	for i := 1; i < len(got); i++ {
		a, b := got[i-1], got[i]
		if a[0].N > b[0].N || a[0].N == b[0].N && a[1].N >= b[1].N {
			t.Fatalf("Sort: %v ahead of %v", a, b)
		}
	}
}

func TestSortTexts(t *testing.T) { // 1.2: by runes, bad bytes among them
	got := value.Sort([]api.Row{{text("\U00010000")}, {text("\xff")}, {text("z")}, {text("\uFFFD")}, {text("\xfe")}})
	var s []string
	for _, r := range got {
		s = append(s, r[0].S)
	}
	if want := []string{"z", "\xff", "\uFFFD", "\xfe", "\U00010000"}; !slices.Equal(s, want) {
		t.Errorf("Sort: %q", s)
	}
}

func TestSameBag(t *testing.T) { // 1.2
	one, two := api.Row{whole(1)}, api.Row{whole(2)}
	for i, x := range []struct {
		a, b []api.Row
		want bool
	}{
		{nil, nil, true},
		{nil, []api.Row{}, true},
		{nil, []api.Row{nil}, false},
		{[]api.Row{nil}, []api.Row{{}}, true},
		{[]api.Row{one, two, one}, []api.Row{two, one, one}, true},
		{[]api.Row{one, two, one}, []api.Row{two, one, two}, false},
		{[]api.Row{one, two}, []api.Row{one, two, two}, false},
		{[]api.Row{one}, []api.Row{{whole(1), {}}}, false},
		{[]api.Row{{whole(1), whole(2)}}, []api.Row{{whole(2), whole(1)}}, false},
		{[]api.Row{{whole(1)}}, []api.Row{{boolean(true)}}, false},
		// Alike by the order, but not the same.
		{[]api.Row{{{N: 1}}}, []api.Row{{{N: 2}}}, false},
		{[]api.Row{{{B: true}}}, []api.Row{{{}}}, false},
		{[]api.Row{{{S: "a"}}}, []api.Row{{{}}}, false},
		{[]api.Row{{text("\xff")}}, []api.Row{{text("\xfe")}}, false},
		{[]api.Row{{text("\xff")}}, []api.Row{{text("\uFFFD")}}, false},
		{[]api.Row{{text("\xff")}, {text("\xfe")}}, []api.Row{{text("\xfe")}, {text("\xff")}}, true},
		{[]api.Row{{{N: 1}}, {{N: 2}}, {{Kind: 9, S: "a"}}}, []api.Row{{{Kind: 9, S: "a"}}, {{N: 2}}, {{N: 1}}}, true},
	} {
		if value.SameBag(x.a, x.b) != x.want || value.SameBag(x.b, x.a) != x.want {
			t.Errorf("SameBag, %d: not %v", i, x.want)
		}
	}
}

// turns are the orders of n things, all of them.
func turns(n int) [][]int {
	if n == 0 {
		return [][]int{nil}
	}
	var out [][]int
	for _, l := range turns(n - 1) {
		for i := range n {
			out = append(out, slices.Insert(slices.Clone(l), i, n-1))
		}
	}
	return out
}

func TestBags(t *testing.T) { // 1.5
	l := []api.Row{{whole(3), text("é")}, {whole(3)}, {{}}, {whole(3)}, {text("日")}, {boolean(true), {}}}
	sorted := value.Sort(l)
	for _, turn := range turns(len(l)) {
		var m []api.Row
		for _, i := range turn {
			m = append(m, l[i])
		}
		if !value.SameBag(l, m) || !value.SameBag(m, value.Sort(m)) {
			t.Fatal("another bag:", turn)
		}
		if !reflect.DeepEqual(sorted, value.Sort(m)) {
			t.Fatal("sorted in another way:", turn)
		}
	}
	small := bagsOf([]api.Row{nil, {{}}, {whole(1)}, {whole(1), {}}}, 3)
	for _, a := range small {
		for _, b := range small {
			if value.SameBag(a, b) != (fmt.Sprint(value.Sort(a)) == fmt.Sprint(value.Sort(b))) {
				t.Fatal("SameBag, and sorted row by row:", a, b)
			}
		}
	}
}

// bagsOf are all lists of at most n of l.
func bagsOf(l []api.Row, n int) [][]api.Row {
	out := [][]api.Row{nil}
	if n == 0 {
		return out
	}
	for _, rest := range bagsOf(l, n-1) {
		for _, r := range l {
			out = append(out, append([]api.Row{r}, rest...))
		}
	}
	return out
}
