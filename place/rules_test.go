package place_test

import (
	"fmt"
	"math"
	"math/rand/v2"
	"reflect"
	"runtime"
	"slices"
	"strings"
	"testing"
	"unsafe"

	"potsherd/api"
	"potsherd/place"
	"potsherd/value"
)

// within tells whether a's bytes lie in b's memory.
func within(a, b string) bool {
	if a == "" || b == "" {
		return false
	}
	x, y := uintptr(unsafe.Pointer(unsafe.StringData(a))), uintptr(unsafe.Pointer(unsafe.StringData(b)))
	return x >= y && x < y+uintptr(len(b))
}

func TestSplitIsNewMemory(t *testing.T) { // 6.3
	l := layout(3, 2, 1)
	key := strings.Clone("a key")
	r := append(make(api.Row, 0, 8), text(key), whole(1))
	given := table(0)
	given.Rows = []api.Row{r, r, r}
	all, why := place.Split(l, given)
	again, _ := place.Split(l, given)
	s, _ := place.Shard(l, r)
	if why != api.OK || len(all[s]) != 3 {
		t.Fatalf("Split = %v, error %d", all, why)
	}
	if within(all[s][0][0].S, key) {
		t.Error("a text lies in what was handed in")
	}
	all[s][0][1] = whole(2)
	_ = append(all[s][0], whole(3))
	if all[s][1][1] != whole(1) || r[1] != whole(1) || r[:3][2] != (api.Value{}) || again[s][0][1] != whole(1) {
		t.Error("a row of an answer shares memory with another one")
	}
	// A list of an answer has no other one behind it.
	full, _ := place.Split(layout(3, 8, 1), table(api.MaxRows))
	before := fmt.Sprint(full[1:])
	_ = append(full[0], api.Row{whole(9)}, api.Row{whole(9)})
	if fmt.Sprint(full[1:]) != before {
		t.Error("two lists of an answer share memory")
	}
	r[0], r[1] = text("changed"), whole(7)
	if again[s][0][0] != text("a key") || again[s][0][1] != whole(1) {
		t.Error("an answer hangs on what became of an argument")
	}
}

func TestListsAreNewMemory(t *testing.T) { // 6.3
	l := layout(4, 3, 2)
	o, _ := place.Owners(l, 0)
	o[0] = 9
	if again, _ := place.Owners(l, 0); !slices.Equal(again, []int{1, 2}) {
		t.Error("Owners shares memory with an earlier answer:", again)
	}
	c, alive := claim(l), []bool{true, false, true, true}
	for s := range c.Owners { // with room behind, which nobody may write to
		c.Owners[s] = append(make([]int, 0, 9), c.Owners[s]...)
	}
	behind := func() string {
		out := fmt.Sprint(c.Table, c.Cols, c.Version, alive)
		for _, o := range c.Owners {
			out += fmt.Sprint(o, o[:9])
		}
		return out
	}
	before := behind()
	p, _ := place.Pick(l, c, alive)
	place.CheckClaim(l, c)
	p[0], p[1], p[2] = 9, 9, 9
	if behind() != before {
		t.Error("what is handed in was changed:", behind())
	}
	if again, _ := place.Pick(l, c, alive); !slices.Equal(again, []int{2, 3, 3}) {
		t.Error("Pick shares memory with an earlier answer:", again)
	}
}

func TestSplitChangesNothing(t *testing.T) { // 6.3
	for _, n := range []int{0, 1, api.MaxRows} {
		given := table(n)
		given.Rows = append(given.Rows, api.Row{whole(77)}, api.Row{whole(78)})[:n]
		for i, r := range given.Rows {
			given.Rows[i] = append(r, whole(79))[:2]
		}
		place.Split(layout(3, 8, 1), given)
		if !reflect.DeepEqual(given.Rows[:n+2][n], api.Row{whole(77)}) || n > 0 && !reflect.DeepEqual(given.Rows, table(n).Rows) {
			t.Error("what is handed in was changed:", given.Rows)
		}
		for _, r := range given.Rows {
			if r[:3][2] != whole(79) {
				t.Error("something stands behind a row that was handed in:", r[:3])
			}
		}
	}
}

func pick[T any](d *rand.Rand, l ...T) T { return l[d.IntN(len(l))] }

// ask calls everything of the package, and tells all that was answered.
func ask(l api.Layout, shard int, t api.Table, c api.Claim, alive []bool) string {
	o, why := place.Owners(l, shard)
	out := fmt.Sprint(place.Check(l), o, why)
	for _, r := range t.Rows {
		s, why := place.Shard(l, r)
		out += fmt.Sprint(s, why)
	}
	all, why := place.Split(l, t)
	p, why1 := place.Pick(l, c, alive)
	return out + fmt.Sprint(all, why, place.CheckClaim(l, c), p, why1)
}

func TestAnything(t *testing.T) { // P1, P2, P3, P4
	before := runtime.NumGoroutine()
	d := rand.New(rand.NewPCG(6, 9))
	number := func() int { return pick(d, 1, 1, 2, 3, 3, 4, 8, 0, -1, 9, math.MaxInt, math.MinInt) }
	names := []string{"t", "t", "", "\xff", strings.Repeat("a", 65)}
	for range 20000 {
		l := layout(number(), number(), number())
		x := api.Table{Name: pick(d, names...), Cols: columns(d.IntN(4)), Rows: make([]api.Row, d.IntN(4))}
		for i := range x.Rows {
			x.Rows[i] = make(api.Row, d.IntN(4))
			for k := range x.Rows[i] {
				x.Rows[i][k] = pick(d, odd()...)
			}
		}
		c := api.Claim{Table: pick(d, names...), Cols: columns(1 + d.IntN(3)), Owners: make([][]int, max(0, min(8, number())))}
		for i := range c.Owners {
			for range d.IntN(3) {
				c.Owners[i] = append(c.Owners[i], number())
			}
		}
		alive := make([]bool, d.IntN(10))
		for i := range alive {
			alive[i] = d.IntN(2) == 0
		}
		shard := number()
		first := ask(l, shard, x, c, alive)
		c.Owners = slices.Clip(c.Owners)
		if ask(l, shard, x, c, append(make([]bool, 0, 99), alive...)) != first {
			t.Fatalf("what is answered hangs on more than the arguments: %v, %v", l, c)
		}
		if all, why := place.Split(l, x); why != api.OK && len(all) != 0 || place.Check(l) == api.OK && why != value.CheckTable(x) {
			t.Fatalf("Split(%v, %v) = %v, error %d", l, x, all, why)
		}
		if p, why := place.Pick(l, c, alive); why != api.OK && len(p) != 0 || why != api.ErrUnavailable && why != place.CheckClaim(l, c) {
			t.Fatalf("Pick(%v, %v) = %v, error %d", l, c, p, why)
		}
	}
	if n := runtime.NumGoroutine(); n > before { // an earlier test's own may have ended meanwhile
		t.Errorf("%d goroutines, and %d before", n, before)
	}
}

func TestNilAndEmptyAreAlike(t *testing.T) { // P1
	l := layout(3, 2, 1)
	for _, rows := range [][]api.Row{nil, {}} {
		x := table(0)
		x.Rows = rows
		if all, why := place.Split(l, x); len(all) != 2 || len(all[0])+len(all[1]) != 0 || why != api.OK {
			t.Error("Split:", all, why)
		}
	}
	for _, o := range [][]int{nil, {}} {
		c := claim(l)
		c.Owners[1] = o
		if why := place.CheckClaim(l, c); why != api.ErrState {
			t.Error("CheckClaim: error", why)
		}
	}
	for _, alive := range [][]bool{nil, {}} {
		if p, why := place.Pick(l, claim(l), alive); len(p) != 0 || why != api.ErrUnavailable {
			t.Error("Pick:", p, why)
		}
	}
}
