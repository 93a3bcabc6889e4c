package plan_test

import (
	"fmt"
	"reflect"
	"slices"
	"strconv"
	"strings"
	"testing"

	"potsherd/api"
	"potsherd/bind"
	"potsherd/parse"
	"potsherd/place"
	"potsherd/plan"
)

func column(name string, k api.Kind) api.Col { return api.Col{Name: name, Kind: k} }

func layout(nodes, shards, replicas int) api.Layout {
	return api.Layout{Nodes: nodes, Shards: shards, Replicas: replicas}
}

// cols are those of all tables of these tests: k and a go together, and so do all of one name.
func cols() []api.Col {
	return []api.Col{column("k", api.KindInt), column("a", api.KindInt), column("s", api.KindText)}
}

// claim is a right one, whose version is told by the table's name.
func claim(table string, owners ...[]int) api.Claim {
	return api.Claim{Table: table, Cols: cols(), Version: api.Version{Boot: uint64(len(table)), Load: uint64(table[0])}, Owners: owners}
}

// placed is a claim whose shards are where the layout says.
func placed(table string, l api.Layout) api.Claim {
	c := claim(table)
	for s := range l.Shards {
		o, _ := place.Owners(l, s)
		c.Owners = append(c.Owners, o)
	}
	return c
}

func bound(t *testing.T, text string, claims []api.Claim) api.Bound {
	t.Helper()
	q, why, at := parse.Parse(text)
	if why != api.OK {
		t.Fatalf("Parse(%s): error %d at %d", text, why, at)
	}
	b, why := bind.Bind(q, plan.Catalog(claims))
	if why != api.OK {
		t.Fatalf("Bind(%s): error %d", text, why)
	}
	return b
}

const (
	one      = "(from t)"
	grouped  = "(from t (where (> a 1)) (group s) (get s (sum a)))"
	byFirst  = "(from t (join u t.k u.k) (get (count)))"
	byOthers = "(from t (join u t.a u.k) (get (count)))"
	bySecond = "(from t (join u t.k u.a) (get (count)))"
	byTexts  = "(from t (join u t.s u.s) (get (count)))"
)

const on, off = true, false

// shard is where the rows of one shard of a claim come from.
func shard(table string, n int) api.Src {
	return api.Src{Kind: api.SrcShard, Table: table, Version: claim(table).Version, Shard: n}
}

// sent is what those fragments send.
func sent(frags ...int) api.Src { return api.Src{Kind: api.SrcFrags, Frags: frags} }

// samePlan tells whether two plans are alike, nil and empty lists being so.
func samePlan(a, b []api.Frag) bool {
	plain := func(l []api.Frag) []api.Frag {
		l = slices.Clone(l)
		for i := range l {
			l[i].To = append([]int{}, l[i].To...)
			l[i].Left.Frags = append([]int{}, l[i].Left.Frags...)
			l[i].Right.Frags = append([]int{}, l[i].Right.Frags...)
		}
		return l
	}
	return len(a) == len(b) && reflect.DeepEqual(plain(a), plain(b))
}

func wantPlan(t *testing.T, name, text string, l api.Layout, claims []api.Claim, alive []bool, want ...api.Frag) {
	t.Helper()
	f, why := plan.Make(bound(t, text, claims), l, claims, alive)
	if why != api.OK || !samePlan(f, want) {
		t.Errorf("%s: %+v, error %d; not %+v", name, f, why, want)
	}
}

func TestMakeOfOneTable(t *testing.T) { // 7.1
	l := layout(4, 3, 2)
	claims := []api.Claim{placed("u", l), placed("t", l)}
	for _, text := range []string{one, grouped} {
		wantPlan(t, "all alive", text, l, claims, []bool{on, on, on, on},
			api.Frag{Id: 0, Node: 1, Left: shard("t", 0)},
			api.Frag{Id: 1, Node: 3, Left: shard("t", 1)},
			api.Frag{Id: 2, Node: 1, Left: shard("t", 2)})
		wantPlan(t, "one dead", text, l, claims, []bool{off, off, on, on},
			api.Frag{Id: 0, Node: 2, Left: shard("t", 0)},
			api.Frag{Id: 1, Node: 3, Left: shard("t", 1)},
			api.Frag{Id: 2, Node: 3, Left: shard("t", 2)})
	}
	// Whoever has the other tables is no matter.
	elsewhere := []api.Claim{claim("t", []int{2}, []int{2}), claim("u", []int{1}, []int{1})}
	wantPlan(t, "elsewhere", one, layout(3, 2, 1), elsewhere, []bool{off, off, on},
		api.Frag{Id: 0, Node: 2, Left: shard("t", 0)},
		api.Frag{Id: 1, Node: 2, Left: shard("t", 1)})
	wantPlan(t, "one shard", one, layout(2, 1, 1), []api.Claim{claim("t", []int{1})}, []bool{off, on},
		api.Frag{Id: 0, Node: 1, Left: shard("t", 0)})
	many := claim("t", slices.Repeat([][]int{{1, 3, 7}}, api.MaxShards)...)
	var want []api.Frag
	for s := range api.MaxShards {
		want = append(want, api.Frag{Id: s, Node: []int{1, 3, 7}[s%3], Left: shard("t", s)})
	}
	wantPlan(t, "as many as may be", one, layout(8, 8, 1), []api.Claim{many}, slices.Repeat([]bool{on}, 8), want...)
}

func TestMakeSideBySide(t *testing.T) { // 7.1
	l := layout(5, 3, 1)
	claims := []api.Claim{claim("t", []int{1, 2, 3}, []int{1, 2, 3}, []int{4}), claim("u", []int{2, 3, 4}, []int{2, 3, 4}, []int{1, 2, 4})}
	side := func(nodes ...int) []api.Frag {
		var l []api.Frag
		for s, n := range nodes {
			l = append(l, api.Frag{Id: s, Node: n, Left: shard("t", s), Right: shard("u", s)})
		}
		return l
	}
	wantPlan(t, "all alive", byFirst, l, claims, []bool{on, on, on, on, on}, side(2, 3, 4)...)
	wantPlan(t, "without the third", byFirst, l, claims, []bool{off, on, on, off, on}, side(2, 2, 4)...)
	wantPlan(t, "without the second", byFirst, l, claims, []bool{off, on, off, on, on}, side(3, 3, 4)...)
	wantPlan(t, "beyond the nodes", byFirst, l, claims, []bool{on, on, on, on, on, on, on, on, on}, side(2, 3, 4)...)
	// By turns, of those alone that have both.
	turns := []api.Claim{claim("t", slices.Repeat([][]int{{1, 2, 3, 5}}, 5)...), claim("u", slices.Repeat([][]int{{2, 3, 4, 5}}, 5)...)}
	wantPlan(t, "by turns", byFirst, layout(6, 5, 1), turns, []bool{on, on, on, on, on, on}, side(2, 3, 5, 2, 3)...)
	wantPlan(t, "by turns of two", byFirst, layout(6, 5, 1), turns, []bool{on, on, on, off, on, on}, side(2, 5, 2, 5, 2)...)
	wantPlan(t, "one shard", byFirst, layout(3, 1, 1), []api.Claim{claim("t", []int{1, 2}), claim("u", []int{2})}, []bool{on, on, on}, side(2)...)
	// Which table is the first one hangs on the query, not on the claims.
	wantPlan(t, "turned round", "(from u (join t t.k u.k) (get (count)))", layout(3, 1, 1), []api.Claim{claim("t", []int{1, 2}), claim("u", []int{2})}, []bool{on, on, on},
		api.Frag{Node: 2, Left: shard("u", 0), Right: shard("t", 0)})
}

func TestMakeBroadcast(t *testing.T) { // 7.1
	broadcast := func(from, to int) []api.Frag {
		return []api.Frag{
			{Id: 0, Node: from, Left: shard("u", 0), Raw: true, By: -1, To: []int{1}},
			{Id: 1, Node: to, Left: shard("t", 0), Right: sent(0)},
		}
	}
	l := layout(3, 1, 1)
	apart := []api.Claim{claim("t", []int{1}), claim("u", []int{2})}
	wantPlan(t, "apart", byFirst, l, apart, []bool{on, on, on}, broadcast(2, 1)...)
	near := []api.Claim{claim("t", []int{1, 2}), claim("u", []int{2})}
	for _, text := range []string{byOthers, bySecond, byTexts} { // not by the first columns, though both lie on one node
		wantPlan(t, text, text, l, near, []bool{on, on, on}, broadcast(2, 1)...)
		wantPlan(t, text, text, l, near, []bool{off, off, on}, broadcast(2, 2)...)
	}
	// The one that has both is not alive.
	wide := []api.Claim{claim("t", []int{1, 3}), claim("u", []int{2, 3})}
	wantPlan(t, "all alive", byFirst, layout(4, 1, 1), wide, []bool{on, on, on, on}, api.Frag{Node: 3, Left: shard("t", 0), Right: shard("u", 0)})
	wantPlan(t, "dead", byFirst, layout(4, 1, 1), wide, []bool{on, on, on, off}, broadcast(2, 1)...)
	wantPlan(t, "a short list", byFirst, layout(4, 1, 1), wide, []bool{on, on, on}, broadcast(2, 1)...)
}

func TestMakeShuffled(t *testing.T) { // 7.1, the chapter's example
	l := layout(3, 2, 2)
	claims := []api.Claim{claim("t", []int{1, 2}, []int{1, 2}), claim("u", []int{1}, []int{2})}
	to := []int{4, 5}
	shuffled := func(left, right int, nodes ...int) []api.Frag {
		return []api.Frag{
			{Id: 0, Node: nodes[0], Left: shard("t", 0), Raw: true, By: left, To: to},
			{Id: 1, Node: nodes[1], Left: shard("t", 1), Raw: true, By: left, To: to},
			{Id: 2, Node: nodes[2], Left: shard("u", 0), Raw: true, By: right, To: to},
			{Id: 3, Node: nodes[3], Left: shard("u", 1), Raw: true, By: right, To: to},
			{Id: 4, Node: nodes[4], Left: sent(0, 1), Right: sent(2, 3)},
			{Id: 5, Node: nodes[5], Left: sent(0, 1), Right: sent(2, 3)},
		}
	}
	all := []bool{on, on, on}
	wantPlan(t, "by the second", bySecond, l, claims, all, shuffled(0, 1, 1, 2, 1, 2, 1, 2)...)
	wantPlan(t, "by the second of the first", byOthers, l, claims, all, shuffled(1, 0, 1, 2, 1, 2, 1, 2)...)
	wantPlan(t, "by texts", byTexts, l, claims, all, shuffled(2, 2, 1, 2, 1, 2, 1, 2)...)
	// By the first columns, where one shard has no node for both.
	apart := []api.Claim{claim("t", []int{1}, []int{2}), claim("u", []int{1}, []int{3})}
	four := layout(4, 2, 1)
	wantPlan(t, "apart", byFirst, four, apart, []bool{on, on, on, on}, shuffled(0, 0, 1, 2, 1, 3, 1, 2)...)
	// What joins may be where no shard is.
	idle := []api.Claim{claim("t", []int{3, 4}, []int{4}), claim("u", []int{3}, []int{4, 5})}
	six := layout(6, 2, 1)
	wantPlan(t, "idle", bySecond, six, idle, []bool{on, on, on, on, on, on}, shuffled(0, 1, 3, 4, 3, 5, 1, 2)...)
	wantPlan(t, "without the first", bySecond, six, idle, []bool{on, off, on, on, on, on}, shuffled(0, 1, 3, 4, 3, 5, 2, 3)...)
	wantPlan(t, "without both", bySecond, six, idle, []bool{on, off, off, on, on, on}, shuffled(0, 1, 3, 4, 3, 5, 3, 4)...)
	wantPlan(t, "beyond the nodes", bySecond, six, idle, []bool{on, off, off, on, on, off, on, on}, shuffled(0, 1, 3, 4, 3, 4, 3, 4)...)
	// One node does all.
	alone := []api.Claim{claim("t", []int{1}, []int{1}), claim("u", []int{1}, []int{1})}
	wantPlan(t, "alone", bySecond, layout(2, 2, 1), alone, []bool{off, on}, shuffled(0, 1, 1, 1, 1, 1, 1, 1)...)
}

func TestMakeOfTheMost(t *testing.T) { // 7.1: as many nodes, shards and tables as may be
	l := layout(8, 8, 7)
	var claims []api.Claim
	for i := range api.MaxTables - 2 {
		claims = append(claims, placed("other"+strconv.Itoa(i), l))
	}
	claims = append(claims, placed("u", l), placed("t", l))
	alive := slices.Repeat([]bool{on}, 8)
	b := bound(t, byOthers, claims)
	f, why := plan.Make(b, l, claims, alive)
	if why != api.OK || !samePlan(f, makeAgain(b, l, claims, alive)) || len(f) != 24 || len(f) > api.MaxFrags {
		t.Errorf("%+v, error %d", f, why)
	}
	claims = append(claims, placed("v", l))
	if f, why := plan.Make(b, l, claims, alive); why != api.ErrMany || len(f) != 0 {
		t.Errorf("%+v, error %d", f, why)
	}
}

func TestMakeErrors(t *testing.T) { // 7.1, P2, P3: the layout, the claims, the query, then who is alive
	l := layout(4, 2, 2)
	good := []api.Claim{claim("t", []int{1}, []int{2}), claim("u", []int{2}, []int{3})}
	first := good[:1]
	twice := append(good[:2:2], good[0])
	bad := []api.Claim{good[0], claim("u", []int{2})}
	single, join := bound(t, one, good), bound(t, byFirst, good)
	joined := func(change func(b *api.Bound)) api.Bound {
		b := bound(t, byFirst, good)
		change(&b)
		return b
	}
	all := []bool{on, on, on, on}
	for name, x := range map[string]struct {
		b      api.Bound
		l      api.Layout
		claims []api.Claim
		alive  []bool
		want   api.Errno
	}{
		"right":                      {join, l, good, all, api.OK},
		"one table":                  {single, l, good, all, api.OK},
		"the layout ahead of all":    {api.Bound{}, api.Layout{}, twice, nil, api.ErrRange},
		"the layout":                 {join, layout(4, 9, 2), good, all, api.ErrRange},
		"a claim":                    {join, l, bad, all, api.ErrState},
		"claims of another layout":   {join, layout(4, 3, 2), good, all, api.ErrState},
		"owned by who is not there":  {join, layout(3, 2, 2), good, all, api.ErrState},
		"a claim twice":              {join, l, twice, all, api.ErrTwice},
		"twice ahead of the query":   {api.Bound{}, l, twice, nil, api.ErrTwice},
		"many ahead of the query":    {api.Bound{}, l, make([]api.Claim, 9), nil, api.ErrMany},
		"no query":                   {api.Bound{}, l, good, all, api.ErrState},
		"the query ahead of no one":  {api.Bound{}, l, good, nil, api.ErrState},
		"no claims":                  {single, l, nil, all, api.ErrState},
		"a table is not claimed":     {join, l, first, all, api.ErrState},
		"only the other one":         {single, l, good[1:], all, api.ErrState},
		"joined with itself":         {joined(func(b *api.Bound) { b.Join = "t" }), l, good, all, api.ErrState},
		"a wrong width":              {joined(func(b *api.Bound) { b.Width = 2 }), l, good, all, api.ErrState},
		"by no column":               {joined(func(b *api.Bound) { b.Left = 3 }), l, good, all, api.ErrState},
		"by two kinds":               {joined(func(b *api.Bound) { b.Right = 2 }), l, good, all, api.ErrState},
		"below":                      {joined(func(b *api.Bound) { b.Right = -1 }), l, good, all, api.ErrState},
		"no items":                   {joined(func(b *api.Bound) { b.Items = nil }), l, good, all, api.ErrState},
		"nobody alive":               {single, l, good, nil, api.ErrUnavailable},
		"nobody alive for both":      {join, l, good, nil, api.ErrUnavailable},
		"only the coordinator":       {single, l, good, []bool{on}, api.ErrUnavailable},
		"the first shard":            {single, l, good, []bool{on, off, on, on}, api.ErrUnavailable},
		"the second shard":           {single, l, good, []bool{on, on, off, on}, api.ErrUnavailable},
		"only the other table's":     {single, l, good, []bool{on, on, on, off}, api.OK},
		"of the second table":        {join, l, good, []bool{on, on, on, off}, api.ErrUnavailable},
		"of the second, a short one": {join, l, good, []bool{on, on, on}, api.ErrUnavailable},
		"of the first of both":       {join, l, good, []bool{on, off, on, on}, api.ErrUnavailable},
		"the coordinator no matter":  {join, l, good, []bool{off, on, on, on}, api.OK},
	} {
		f, why := plan.Make(x.b, x.l, x.claims, x.alive)
		if why != x.want || why != api.OK && len(f) != 0 || why == api.OK && len(f) == 0 {
			t.Errorf("%s: %+v, error %d; not %d", name, f, why, x.want)
		}
	}
}

func TestCheck(t *testing.T) { // 7.1, P3
	l := layout(4, 2, 2)
	right := func(names ...string) (all []api.Claim) {
		for _, n := range names {
			all = append(all, placed(n, l))
		}
		return all
	}
	changed := func(all []api.Claim, i int, change func(c *api.Claim)) []api.Claim {
		change(&all[i])
		return all
	}
	unowned := func(c *api.Claim) { c.Owners = c.Owners[:1] }
	most := right("a", "b", "c", "d", "e", "f", "g", "h")
	for name, x := range map[string]struct {
		l      api.Layout
		claims []api.Claim
		want   api.Errno
	}{
		"none":                             {l, nil, api.OK},
		"one":                              {l, right("t"), api.OK},
		"some":                             {l, right("t", "u", "v"), api.OK},
		"as many as may be":                {l, most, api.OK},
		"one more":                         {l, append(most[:8:8], placed("i", l)), api.ErrMany},
		"many ahead of wrong ones":         {l, make([]api.Claim, 9), api.ErrMany},
		"many ahead of twice":              {l, slices.Repeat(right("t"), 9), api.ErrMany},
		"far too many":                     {l, slices.Repeat(right("t"), 1<<12), api.ErrMany},
		"the layout, without claims":       {api.Layout{}, nil, api.ErrRange},
		"the layout ahead of many":         {layout(4, 2, 4), make([]api.Claim, 9), api.ErrRange},
		"the layout ahead of wrong ones":   {layout(1, 2, 1), make([]api.Claim, 1), api.ErrRange},
		"zero":                             {l, make([]api.Claim, 1), api.ErrState},
		"twice":                            {l, right("t", "t"), api.ErrTwice},
		"twice, far behind":                {l, right("t", "u", "v", "t"), api.ErrTwice},
		"twice, of two versions":           {l, changed(right("t", "t"), 1, func(c *api.Claim) { c.Version.Load++ }), api.ErrTwice},
		"a shard less":                     {l, changed(right("t", "u"), 1, unowned), api.ErrState},
		"wrong ahead of twice, of one":     {l, changed(right("t", "t"), 1, unowned), api.ErrState},
		"wrong ahead of twice, behind it":  {l, changed(right("t", "u", "u"), 0, unowned), api.ErrState},
		"twice ahead of wrong, behind it":  {l, changed(right("t", "t", "u"), 2, unowned), api.ErrTwice},
		"no columns":                       {l, changed(right("t"), 0, func(c *api.Claim) { c.Cols = nil }), api.ErrState},
		"no name":                          {l, changed(right("t"), 0, func(c *api.Claim) { c.Table = "" }), api.ErrState},
		"a long name":                      {l, changed(right("t"), 0, func(c *api.Claim) { c.Table = strings.Repeat("a", 65) }), api.ErrState},
		"owned by the coordinator":         {l, changed(right("t"), 0, func(c *api.Claim) { c.Owners[1] = []int{0} }), api.ErrState},
		"owned by one that is not there":   {l, changed(right("t"), 0, func(c *api.Claim) { c.Owners[1] = []int{4} }), api.ErrState},
		"owned by other ones than planned": {l, changed(right("t"), 0, func(c *api.Claim) { c.Owners[1] = []int{1, 2, 3} }), api.OK},
	} {
		if why := plan.Check(x.l, x.claims); why != x.want {
			t.Errorf("%s: error %d; not %d", name, why, x.want)
		}
		if x.want != api.OK { // Make tells it, too, ahead of all else
			if f, why := plan.Make(api.Bound{}, x.l, x.claims, nil); why != x.want || len(f) != 0 {
				t.Errorf("%s: Make is %v, error %d; not %d", name, f, why, x.want)
			}
		}
	}
}

func TestCatalog(t *testing.T) { // 7.1
	claims := []api.Claim{claim("u", []int{1}), claim("t", []int{2}), claim("t", nil), {}, {Table: "\xff", Cols: []api.Col{{}, {}}}}
	want := []api.Table{{Name: "u", Cols: cols()}, {Name: "t", Cols: cols()}, {Name: "t", Cols: cols()}, {}, {Name: "\xff", Cols: []api.Col{{}, {}}}}
	got := plan.Catalog(claims)
	if fmt.Sprint(got) != fmt.Sprint(want) || !reflect.DeepEqual(got[:3], want[:3]) {
		t.Errorf("Catalog = %v; not %v", got, want)
	}
	if got := plan.Catalog(nil); len(got) != 0 {
		t.Errorf("Catalog of none = %v", got)
	}
	if got := plan.Catalog(make([]api.Claim, 100)); len(got) != 100 {
		t.Errorf("Catalog of 100 has %d", len(got))
	}
	l := layout(4, 2, 2)
	if why := bind.Check(plan.Catalog([]api.Claim{placed("t", l), placed("u", l)})); why != api.OK {
		t.Error("the catalog of right claims is none: error", why)
	}
}
