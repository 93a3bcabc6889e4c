package plan_test

import (
	"fmt"
	"math"
	"math/rand/v2"
	"reflect"
	"runtime"
	"slices"
	"strings"
	"testing"
	"unsafe"

	"potsherd/api"
	"potsherd/bind"
	"potsherd/place"
	"potsherd/plan"
)

func pick[T any](d *rand.Rand, l ...T) T { return l[d.IntN(len(l))] }

// claimOf is that of a table that is there.
func claimOf(table string, claims []api.Claim) api.Claim {
	for _, c := range claims {
		if c.Table == table {
			return c
		}
	}
	return api.Claim{}
}

// makeAgain is a plan: the document's words, said in another way. That there is one is known.
func makeAgain(b api.Bound, l api.Layout, claims []api.Claim, alive []bool) []api.Frag {
	t, u := claimOf(b.Table, claims), claimOf(b.Join, claims)
	isLive := func(w int) bool { return w > 0 && w < l.Nodes && w < len(alive) && alive[w] }
	// nth is the worker at place s, modulo how many they are, of those that are live and own the shard in all of those claims.
	nth := func(s int, of ...api.Claim) int {
		var may []int
		for w := range l.Nodes {
			ok := isLive(w)
			for _, c := range of {
				ok = ok && slices.Contains(c.Owners[s], w)
			}
			if ok {
				may = append(may, w)
			}
		}
		if len(may) == 0 {
			return 0
		}
		return may[s%len(may)]
	}
	source := func(c api.Claim, s int) api.Src {
		return api.Src{Kind: api.SrcShard, Table: c.Table, Version: c.Version, Shard: s}
	}
	var out []api.Frag
	put := func(f api.Frag) {
		f.Id = len(out)
		out = append(out, f)
	}
	near := b.Join != "" && b.Left+b.Right == 0
	for s := range l.Shards {
		near = near && nth(s, t, u) > 0
	}
	var ids [3][]int
	for s := range 3 * l.Shards {
		ids[s/l.Shards] = append(ids[s/l.Shards], s)
	}
	switch {
	case b.Join == "":
		for s := range l.Shards {
			put(api.Frag{Node: nth(s, t), Left: source(t, s)})
		}
	case near:
		for s := range l.Shards {
			put(api.Frag{Node: nth(s, t, u), Left: source(t, s), Right: source(u, s)})
		}
	case l.Shards == 1:
		put(api.Frag{Node: nth(0, u), Left: source(u, 0), Raw: true, By: -1, To: []int{1}})
		put(api.Frag{Node: nth(0, t), Left: source(t, 0), Right: api.Src{Kind: api.SrcFrags, Frags: []int{0}}})
	default:
		for s := range l.Shards {
			put(api.Frag{Node: nth(s, t), Left: source(t, s), Raw: true, By: b.Left, To: ids[2]})
		}
		for s := range l.Shards {
			put(api.Frag{Node: nth(s, u), Left: source(u, s), Raw: true, By: b.Right, To: ids[2]})
		}
		for s := range l.Shards {
			put(api.Frag{Node: nth(s), Left: api.Src{Kind: api.SrcFrags, Frags: ids[0]}, Right: api.Src{Kind: api.SrcFrags, Frags: ids[1]}})
		}
	}
	return out
}

// lost tells whether a shard of the claim has no live owner.
func lost(c api.Claim, alive []bool) bool {
	return slices.ContainsFunc(c.Owners, func(o []int) bool {
		return !slices.ContainsFunc(o, func(w int) bool { return w < len(alive) && alive[w] })
	})
}

// follow checks what follows of a plan.
func follow(t *testing.T, f []api.Frag, b api.Bound, l api.Layout, claims []api.Claim, alive []bool) {
	t.Helper()
	seen := map[string]int{}
	for i, x := range f {
		if x.Id != i {
			t.Fatalf("%+v: the Id of %d", f, i)
		}
		if x.Node < 1 || x.Node >= l.Nodes || x.Node >= len(alive) || !alive[x.Node] {
			t.Fatalf("%+v: fragment %d is not on a live worker of %v", f, i, alive) // 7.4
		}
		for _, s := range []api.Src{x.Left, x.Right} {
			if s.Kind == api.SrcShard {
				c := claimOf(s.Table, claims)
				if !slices.Contains(c.Owners[s.Shard], x.Node) || s.Version != c.Version { // 7.4
					t.Fatalf("%+v: fragment %d is not on an owner", f, i)
				}
				seen[fmt.Sprint(s.Table, " ", s.Shard)]++
			}
			for _, from := range s.Frags {
				if from < 0 || from >= i || !slices.Contains(f[from].To, i) {
					t.Fatalf("%+v: nothing is sent from %d to %d", f, from, i)
				}
			}
		}
		for _, to := range x.To {
			if to <= i || to >= len(f) || !slices.Contains(slices.Concat(f[to].Left.Frags, f[to].Right.Frags), i) { // 7.5
				t.Fatalf("%+v: fragment %d sends to %d", f, i, to)
			}
		}
		if x.Raw != (len(x.To) > 0) || !x.Raw && x.By != 0 {
			t.Fatalf("%+v: fragment %d", f, i)
		}
	}
	tables := []string{b.Table, b.Join}
	if b.Join == "" {
		tables = tables[:1]
	}
	for _, name := range tables { // 7.3
		for s := range l.Shards {
			if n := seen[fmt.Sprint(name, " ", s)]; n != 1 {
				t.Fatalf("%+v: shard %d of %s is a source %d times", f, s, name, n)
			}
		}
	}
	if len(seen) != len(tables)*l.Shards {
		t.Fatalf("%+v: other sources: %v", f, seen)
	}
}

// holdMake holds Make against what is said again.
func holdMake(t *testing.T, b api.Bound, l api.Layout, claims []api.Claim, alive []bool) api.Errno {
	t.Helper()
	f, why := plan.Make(b, l, claims, alive)
	if lost(claimOf(b.Table, claims), alive) || lost(claimOf(b.Join, claims), alive) {
		if why != api.ErrUnavailable || len(f) != 0 {
			t.Fatalf("Make(%+v, %v, %v, %v) = %+v, error %d", b, l, claims, alive, f, why)
		}
		return why
	}
	if want := makeAgain(b, l, claims, alive); why != api.OK || !samePlan(f, want) {
		t.Fatalf("Make(%+v, %v, %v, %v) = %+v, error %d; not %+v", b, l, claims, alive, f, why, want)
	}
	follow(t, f, b, l, claims, alive)
	return why
}

func TestMakeOfAllLayouts(t *testing.T) { // 7.1, 7.3, 7.4, 7.5: whoever is alive
	var queries []api.Bound
	small := []api.Claim{claim("t", []int{1}), claim("u", []int{1})}
	for _, text := range []string{one, grouped, byFirst, byOthers, bySecond, byTexts} {
		queries = append(queries, bound(t, text, small))
	}
	for nodes := 2; nodes <= 5; nodes++ {
		for _, shards := range []int{1, 2, 3, 5, 8} {
			for replicas := 1; replicas < nodes; replicas++ {
				l := layout(nodes, shards, replicas)
				claims := []api.Claim{placed("t", l), placed("u", l)}
				for bits := range 1 << nodes {
					var alive []bool
					for w := range nodes {
						alive = append(alive, bits>>w&1 == 1)
					}
					for _, b := range queries {
						holdMake(t, b, l, claims, alive)
					}
				}
			}
		}
	}
}

// randomClaims are some of any owners, t and u among them.
func randomClaims(d *rand.Rand, l api.Layout) []api.Claim {
	var all []api.Claim
	for _, name := range []string{"t", "u", "v"} {
		c := claim(name)
		for range l.Shards {
			var owners []int
			for len(owners) == 0 {
				for w := 1; w < l.Nodes; w++ {
					if d.IntN(2) == 0 {
						owners = append(owners, w)
					}
				}
			}
			c.Owners = append(c.Owners, owners)
		}
		all = append(all, c)
	}
	d.Shuffle(3, func(i, k int) { all[i], all[k] = all[k], all[i] })
	return all
}

func TestMakeAgain(t *testing.T) { // 7.1, 7.3, 7.4, 7.5: whoever owns what
	d := rand.New(rand.NewPCG(7, 1))
	found := map[string]int{}
	for range 20000 {
		nodes := 2 + d.IntN(api.MaxNodes-1)
		l := layout(nodes, 1+d.IntN(pick(d, 1, 3, api.MaxShards)), 1+d.IntN(nodes-1))
		claims := randomClaims(d, l)
		alive := make([]bool, pick(d, nodes, nodes, nodes+2, d.IntN(nodes)))
		for w := range alive {
			alive[w] = d.IntN(6) > 0
		}
		b := bound(t, pick(d, one, byFirst, byFirst, byFirst, byOthers, bySecond, byTexts), claims)
		if why := holdMake(t, b, l, claims, alive); why != api.OK {
			found["unavailable"]++
			continue
		}
		f, _ := plan.Make(b, l, claims, alive)
		found[fmt.Sprint(b.Join != "", b.Left+b.Right == 0, l.Shards == 1, len(f) == l.Shards)]++
	}
	// All ways are found often: nobody alive, one table, side by side, broadcast and shuffled, the latter by first columns, too.
	if len(found) < 9 {
		t.Error("too few ways:", found)
	}
	for way, n := range found {
		if n < 100 {
			t.Errorf("%s: only %d", way, n)
		}
	}
}

// within tells whether a's bytes lie in b's memory.
func within(a, b string) bool {
	if a == "" || b == "" {
		return false
	}
	x, y := uintptr(unsafe.Pointer(unsafe.StringData(a))), uintptr(unsafe.Pointer(unsafe.StringData(b)))
	return x >= y && x < y+uintptr(len(b))
}

// lists are all of a plan.
func lists(f []api.Frag) (l [][]int) {
	for _, x := range f {
		l = append(l, x.To, x.Left.Frags, x.Right.Frags)
	}
	return l
}

func TestNewMemory(t *testing.T) { // 7.2
	name, col := strings.Clone("a table"), strings.Clone("a column")
	for _, shards := range []int{1, 2, 8} {
		l := layout(3, shards, 2)
		claims := []api.Claim{placed("t", l), placed("u", l)}
		claims[1].Table, claims[1].Cols[1].Name = name, col
		cat := plan.Catalog(claims)
		if within(cat[1].Name, name) || within(cat[1].Cols[1].Name, col) {
			t.Error("Catalog: a text lies in what was handed in")
		}
		b := api.Bound{Table: "t", Join: name, Width: 3, Left: 0, Right: 1, Items: []api.Item{{Agg: api.AggCount}}, Grouped: true, Names: []string{"c1"}, Kinds: []api.Kind{api.KindInt}}
		alive := []bool{on, on, on}
		f, why := plan.Make(b, l, claims, alive)
		again, _ := plan.Make(b, l, claims, alive)
		if why != api.OK || len(lists(f)) < 6 {
			t.Fatalf("Make = %v, error %d", f, why)
		}
		for _, x := range f {
			if within(x.Left.Table, name) || within(x.Right.Table, name) {
				t.Error("Make: a text lies in what was handed in")
			}
		}
		// Each list is changed, and something put behind it: no other one is.
		for i := range lists(f) {
			plain := fmt.Sprint(lists(f)[:i], lists(f)[i+1:])
			one := lists(f)[i]
			_ = append(one, -7, -7, -7)
			for k := range one {
				one[k] = -8
			}
			if fmt.Sprint(lists(f)[:i], lists(f)[i+1:]) != plain {
				t.Fatalf("two lists of a plan share memory: %+v", f)
			}
		}
		if third, _ := plan.Make(b, l, claims, alive); !reflect.DeepEqual(again, third) {
			t.Error("a plan shares memory with an earlier one, or with what was handed in")
		}
	}
}

func TestCatalogIsNewMemory(t *testing.T) { // 7.2
	shared := cols()
	claims := []api.Claim{{Table: "t", Cols: shared}, {Table: "u", Cols: shared}}
	cat, again := plan.Catalog(claims), plan.Catalog(claims)
	cat[0].Cols[0].Name = "changed"
	_ = append(cat[0].Cols, column("behind", 0))
	cat[0].Name = "changed"
	if !reflect.DeepEqual(cat[1].Cols, cols()) || !reflect.DeepEqual(again[0].Cols, cols()) || !reflect.DeepEqual(shared, cols()) || claims[0].Table != "t" {
		t.Error("a catalog shares memory:", cat, again, claims)
	}
	shared[1].Name = "changed, too"
	if !reflect.DeepEqual(again[1].Cols, cols()) {
		t.Error("a catalog hangs on what became of an argument")
	}
}

// withRoom is a copy of a list with something behind it, which nobody may write to.
func withRoom[T any](l []T, behind T) []T {
	return append(slices.Clone(l), behind, behind)[:len(l)]
}

func TestNothingIsChanged(t *testing.T) { // 7.2
	d := rand.New(rand.NewPCG(7, 2))
	for range 300 {
		l := layout(5, 1+d.IntN(3), 1)
		claims := randomClaims(d, l)
		b := bound(t, pick(d, one, grouped, byFirst, bySecond), claims)
		for i := range claims {
			claims[i].Cols = withRoom(claims[i].Cols, column("behind", 7))
			claims[i].Owners = withRoom(claims[i].Owners, []int{77})
			for s := range claims[i].Owners {
				claims[i].Owners[s] = withRoom(claims[i].Owners[s], 77)
			}
		}
		claims = withRoom(claims, claim("behind"))
		alive := withRoom([]bool{on, on, on, off, on}, on)
		b.Group, b.Items, b.Where = withRoom(b.Group, 77), withRoom(b.Items, api.Item{Agg: 77}), withRoom(b.Where, api.Step{N: 77})
		whole := func() string {
			s := fmt.Sprint(b, b.Group[:len(b.Group)+2], b.Items[:len(b.Items)+2], b.Where[:len(b.Where)+2], alive[:7], claims[:len(claims)+2])
			for _, c := range claims {
				s += fmt.Sprint(c.Cols[:len(c.Cols)+2], c.Owners[:len(c.Owners)+2])
				for _, o := range c.Owners {
					s += fmt.Sprint(o[:len(o)+2])
				}
			}
			return s
		}
		before := whole()
		f, why := plan.Make(b, l, claims, alive)
		plan.Check(l, claims)
		plan.Catalog(claims)
		if whole() != before {
			t.Fatalf("what is handed in was changed: %s; not %s", whole(), before)
		}
		told := fmt.Sprint(f, why)
		for i := range claims {
			clear(claims[i].Cols)
			for _, o := range claims[i].Owners {
				clear(o)
			}
		}
		clear(claims)
		clear(alive)
		if fmt.Sprint(f, why) != told {
			t.Fatal("a plan hangs on what became of an argument")
		}
	}
}

// oddly is right claims, in which something is changed.
func oddly(d *rand.Rand, l api.Layout, number func() int) []api.Claim {
	claims := randomClaims(d, layout(max(2, min(8, l.Nodes)), max(1, min(8, l.Shards)), 1))
	c := &claims[d.IntN(3)]
	s := d.IntN(len(c.Owners))
	switch d.IntN(12) {
	case 0:
		c.Table = pick(d, "", "t", "\xff", strings.Repeat("a", 65))
	case 1:
		c.Cols = pick(d, nil, cols()[:1], slices.Repeat(cols(), 4), []api.Col{{Name: "k", Kind: api.Kind(d.IntN(6))}})
	case 2:
		c.Owners = nil
	case 3:
		c.Owners = append(c.Owners, nil)
	case 4:
		c.Owners[s] = []int{number(), number()}
	case 5:
		c.Owners[s] = nil
	case 6:
		claims = claims[:d.IntN(3)]
	case 7:
		claims = slices.Repeat(claims, d.IntN(5))
	}
	return claims
}

func TestAnything(t *testing.T) { // P1, P2, P3, P4
	before := runtime.NumGoroutine()
	d := rand.New(rand.NewPCG(7, 3))
	number := func() int { return pick(d, 1, 1, 2, 3, 3, 4, 8, 0, -1, 9, math.MaxInt, math.MinInt) }
	right := []api.Claim{claim("t", []int{1}), claim("u", []int{1})}
	found := map[api.Errno]int{}
	for range 30000 {
		l := layout(pick(d, 4, 8, number()), pick(d, 1, 3, number()), pick(d, 1, number()))
		claims := oddly(d, l, number)
		b := bound(t, pick(d, one, grouped, byFirst, bySecond), right)
		switch d.IntN(12) {
		case 0:
			b.Left = number()
		case 1:
			b.Right = number()
		case 2:
			b.Width = number()
		case 3:
			b.Table, b.Join = b.Join, b.Table
		case 4:
			b.Group = append(b.Group, number())
		case 5:
			b = api.Bound{Items: make([]api.Item, d.IntN(9))}
		}
		alive := make([]bool, d.IntN(10))
		for w := range alive {
			alive[w] = d.IntN(8) > 0
		}
		f, why := plan.Make(b, l, claims, alive)
		want := checkAgain(l, claims)
		if got := plan.Check(l, claims); got != want {
			t.Fatalf("Check(%v, %v): error %d; not %d", l, claims, got, want)
		}
		switch {
		case want != api.OK:
		case !bind.Right(b, plan.Catalog(claims)):
			want = api.ErrState
		case lost(claimOf(b.Table, claims), alive), lost(claimOf(b.Join, claims), alive):
			want = api.ErrUnavailable
		case !samePlan(f, makeAgain(b, l, claims, alive)):
			t.Fatalf("Make(%+v, %v, %v, %v) = %+v", b, l, claims, alive, f)
		}
		if why != want || why != api.OK && len(f) != 0 {
			t.Fatalf("Make(%+v, %v, %v, %v) = %+v, error %d; not %d", b, l, claims, alive, f, why, want)
		}
		again, _ := plan.Make(b, l, slices.Clip(claims), append(make([]bool, 0, 99), alive...))
		if !reflect.DeepEqual(f, again) {
			t.Fatalf("Make(%+v, %v) is another one the next time", b, claims)
		}
		found[why]++
	}
	for _, why := range []api.Errno{api.OK, api.ErrRange, api.ErrMany, api.ErrState, api.ErrTwice, api.ErrUnavailable} {
		if found[why] < 300 {
			t.Errorf("error %d is told %d times", why, found[why])
		}
	}
	if n := runtime.NumGoroutine(); n > before { // an earlier test's own may have ended meanwhile
		t.Errorf("%d goroutines, and %d before", n, before)
	}
}

// checkAgain is why claims are not right.
func checkAgain(l api.Layout, claims []api.Claim) api.Errno {
	if place.Check(l) != api.OK {
		return api.ErrRange
	}
	if len(claims) > 8 {
		return api.ErrMany
	}
	seen := map[string]bool{}
	for _, c := range claims {
		if place.CheckClaim(l, c) != api.OK {
			return api.ErrState
		}
		if seen[c.Table] {
			return api.ErrTwice
		}
		seen[c.Table] = true
	}
	return api.OK
}

func TestNilAndEmptyAreAlike(t *testing.T) { // P1
	l := layout(2, 1, 1)
	claims := []api.Claim{claim("t", []int{1})}
	b := bound(t, one, claims)
	empty := b
	empty.Where, empty.Group = []api.Step{}, []int{}
	for _, none := range [][]api.Claim{nil, {}} {
		if why := plan.Check(l, none); why != api.OK {
			t.Error("Check: error", why)
		}
		if cat := plan.Catalog(none); len(cat) != 0 {
			t.Error("Catalog:", cat)
		}
		if f, why := plan.Make(b, l, none, []bool{on, on}); why != api.ErrState || len(f) != 0 {
			t.Error("Make:", f, why)
		}
	}
	for _, alive := range [][]bool{nil, {}} {
		if f, why := plan.Make(b, l, claims, alive); why != api.ErrUnavailable || len(f) != 0 {
			t.Error("Make:", f, why)
		}
	}
	if f, why := plan.Make(empty, l, claims, []bool{on, on}); why != api.OK || len(f) != 1 {
		t.Error("Make:", f, why)
	}
	none := claim("t", []int{1})
	for _, c := range [][]api.Col{nil, {}} {
		none.Cols = c
		if why := plan.Check(l, []api.Claim{none}); why != api.ErrState {
			t.Error("Check: error", why)
		}
	}
}
