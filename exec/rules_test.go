package exec_test

import (
	"fmt"
	"math"
	"math/big"
	"math/rand/v2"
	"slices"
	"strings"
	"testing"

	"potsherd/algebra"
	"potsherd/api"
	"potsherd/exec"
	"potsherd/place"
	"potsherd/plan"
	"potsherd/value"
)

func pick[T any](d *rand.Rand, l ...T) T { return l[d.IntN(len(l))] }

func colsOf(name string) []api.Col {
	for _, t := range catalog() {
		if t.Name == name {
			return t.Cols
		}
	}
	return nil
}

// rowsAgain are the rows of a query: all pairs, of which most are left out.
func rowsAgain(b api.Bound, left, right []api.Row) (rows []api.Row) {
	cols := slices.Concat(colsOf(b.Table), colsOf(b.Join))
	if b.Join == "" {
		right = []api.Row{nil}
	}
	for _, l := range left {
		for _, r := range right {
			row := slices.Concat(l, r)
			if b.Join != "" && (l[b.Left].Kind == api.KindNull || value.Compare(l[b.Left], r[b.Right]) != 0) {
				continue
			}
			if len(b.Where) > 0 {
				if v, _ := algebra.Eval(b.Where, row, cols); v != boolean(true) {
					continue
				}
			}
			rows = append(rows, row)
		}
	}
	return rows
}

// groupsAgain are rows by the text of their values in those places, the texts by these values.
func groupsAgain(rows []api.Row, places []int) (groups map[string][]api.Row, keys []string) {
	groups = map[string][]api.Row{}
	if len(places) == 0 {
		groups[""], keys = rows, []string{""}
		return groups, keys
	}
	values := map[string]api.Row{}
	for _, r := range rows {
		var v api.Row
		for _, p := range places {
			v = append(v, r[p])
		}
		k := fmt.Sprintf("%#v", v)
		if _, ok := groups[k]; !ok {
			keys, values[k] = append(keys, k), v
		}
		groups[k] = append(groups[k], r)
	}
	slices.SortFunc(keys, func(a, b string) int { return value.CompareRows(values[a], values[b]) })
	return groups, keys
}

// runAgain is what a fragment that is not Raw sends: the document's words, said in another way.
func runAgain(b api.Bound, left, right []api.Row) (sent []api.Row) {
	rows := rowsAgain(b, left, right)
	cols := slices.Concat(colsOf(b.Table), colsOf(b.Join))
	if !b.Grouped {
		for _, r := range rows {
			var made api.Row
			for _, item := range b.Items {
				v, _ := algebra.Eval(item.Expr, r, cols)
				made = append(made, v)
			}
			sent = append(sent, made)
		}
		return sent
	}
	groups, keys := groupsAgain(rows, b.Group)
	for _, k := range keys {
		var made api.Row
		for _, p := range b.Group {
			made = append(made, groups[k][0][p])
		}
		for _, item := range b.Items {
			made = append(made, itemAgain(item, groups[k], cols)...)
		}
		sent = append(sent, made)
	}
	return sent
}

func itemAgain(item api.Item, rows []api.Row, cols []api.Col) api.Row {
	var known []api.Value
	sum := new(big.Int)
	for _, r := range rows {
		if v, why := algebra.Eval(item.Expr, r, cols); why == api.OK && v != null() {
			known = append(known, v)
			sum.Add(sum, big.NewInt(v.N))
		}
	}
	slices.SortFunc(known, value.Compare)
	n := len(known)
	switch {
	case item.Agg == api.AggCount:
		return row(len(rows), 0, 0, nil)
	case item.Agg == api.AggNone || n == 0:
		return row(0, 0, 0, nil)
	case item.Agg == api.AggMin:
		return append(row(n, 0, 0), known[0])
	case item.Agg == api.AggMax:
		return append(row(n, 0, 0), known[n-1])
	}
	high, low := new(big.Int).DivMod(sum, big.NewInt(1<<32), new(big.Int)) // low is not below 0
	return row(n, int(high.Int64()), int(low.Int64()), nil)
}

// finishAgain is the answer of right rows.
func finishAgain(b api.Bound, rows []api.Row) (answer []api.Row) {
	if !b.Grouped {
		return value.Sort(rows)
	}
	var places []int
	for i := range b.Group {
		places = append(places, i)
	}
	groups, keys := groupsAgain(rows, places)
	for _, k := range keys {
		var made api.Row
		for i, item := range b.Items {
			at := len(b.Group) + 4*i
			count, sum := int64(0), new(big.Int)
			var best []api.Value
			for _, r := range groups[k] {
				count += r[at].N
				part := new(big.Int).Mul(big.NewInt(r[at+1].N), big.NewInt(1<<32))
				sum.Add(sum, part).Add(sum, big.NewInt(r[at+2].N))
				if r[at+3] != null() {
					best = append(best, r[at+3])
				}
			}
			v := null()
			switch {
			case item.Agg == api.AggNone:
				v = groups[k][0][slices.Index(b.Group, int(item.Expr[0].N))]
			case item.Agg == api.AggCount:
				v = whole(count)
			case item.Agg == api.AggSum && count > 0 && sum.IsInt64():
				v = whole(sum.Int64())
			case item.Agg == api.AggMin && len(best) > 0:
				v = slices.MinFunc(best, value.Compare)
			case item.Agg == api.AggMax && len(best) > 0:
				v = slices.MaxFunc(best, value.Compare)
			}
			made = append(made, v)
		}
		answer = append(answer, made)
	}
	return value.Sort(answer)
}

// randomQuery is one of t, or of t and another one, as a text.
func randomQuery(d *rand.Rand) string {
	cols := []string{"k", "a", "s", "b"}
	numbers := []string{"k", "a", "a", "(+ k a)", "(* a 3)", "(length s)", "(- a 9223372036854775807)", "null", "-7"}
	any := append([]string{"s", "b", "(null? s)", "(= k a)", "(and b (> a 0))", "\"é\"", "(or b null)"}, numbers...)
	q := "(from t"
	if d.IntN(2) == 0 {
		q = pick(d, "(from t (join u s x)", "(from t (join u k y)", "(from t (join u a y)", "(from u (join t y k)", "(from u (join t s x)", "(from t (join other k y)", "(from other (join t k y)", "(from t (join other s x)")
		cols, numbers, any = append(cols, "x", "y"), append(numbers, "y", "(+ y a)"), append(any, "x", "y", "(= x s)")
	}
	if d.IntN(3) == 0 {
		q += " (where " + pick(d, "(> a 0)", "b", "(not (null? s))", "(<= k 1)", "(or b (= a 2))", "false", "null") + ")"
	}
	items, group := 1+d.IntN(4), []string{}
	if d.IntN(2) == 0 {
		group = append(group, cols[d.IntN(len(cols))])
		if more := cols[d.IntN(len(cols))]; more != group[0] {
			group = append(group, more)
		}
		q += " (group " + strings.Join(group, " ") + ")"
	}
	aggregated := len(group) > 0 || d.IntN(2) == 0
	q += " (get"
	if aggregated && len(group) == 0 {
		q += " (count)"
	}
	for range items {
		switch {
		case !aggregated:
			q += " " + pick(d, any...)
		case len(group) > 0 && d.IntN(3) == 0:
			q += " " + pick(d, group...)
		default:
			q += " " + pick(d, "(count)", "(sum "+pick(d, numbers...)+")", "(min "+pick(d, any...)+")", "(max "+pick(d, any...)+")")
		}
	}
	return q + "))"
}

func randomValue(d *rand.Rand, k api.Kind) api.Value {
	if d.IntN(5) == 0 {
		return null()
	}
	switch k {
	case api.KindBool:
		return boolean(d.IntN(2) == 0)
	case api.KindInt:
		return whole(pick[int64](d, 0, 1, 1, 2, 3, -1, 1<<32, -1<<33, math.MaxInt64, math.MinInt64, math.MaxInt64-1))
	}
	return text(pick(d, "", "a", "b", "é", "日本"))
}

func randomRows(d *rand.Rand, cols []api.Col, n int) (rows []api.Row) {
	for range n {
		var r api.Row
		for _, c := range cols {
			r = append(r, randomValue(d, c.Kind))
		}
		rows = append(rows, r)
	}
	return rows
}

func TestRunAgain(t *testing.T) { // 8.1, P3
	d := rand.New(rand.NewPCG(8, 1))
	some := 0
	for range 6000 {
		q := randomQuery(d)
		b := bound(t, q)
		left, right := randomRows(d, colsOf(b.Table), pick(d, 0, 1, 2, 5, 20)), randomRows(d, colsOf(b.Join), pick(d, 0, 1, 2, 5, 20))
		got, why := exec.Run(b, catalog(), api.Frag{}, left, right)
		want := [][]api.Row{runAgain(b, left, right)}
		if why != api.OK || !sameLists(got, want) {
			t.Fatalf("%s of %v and %v: %v, error %d; not %v", q, left, right, got, why, want)
		}
		if again, _ := exec.Run(b, catalog(), api.Frag{}, left, right); !sameLists(got, again) {
			t.Fatalf("%s is another one the next time", q)
		}
		if b.Join == "" && b.Grouped { // 8.5
			groups, _ := groupsAgain(left, b.Group)
			if len(got[0]) > len(groups) || len(b.Group) == 0 && len(got[0]) != 1 {
				t.Fatalf("%s of %v: %v", q, left, got)
			}
		}
		if len(got[0]) > 1 {
			some++
		}
	}
	if some < 1500 {
		t.Error("too few have rows:", some)
	}
}

func TestFinishAgain(t *testing.T) { // 8.2, P3: groups that come from several fragments, in any order
	d := rand.New(rand.NewPCG(8, 2))
	some := 0
	for range 6000 {
		q := randomQuery(d)
		b := bound(t, q)
		var rows []api.Row
		for range d.IntN(5) {
			left, right := randomRows(d, colsOf(b.Table), d.IntN(12)), randomRows(d, colsOf(b.Join), d.IntN(12))
			rows = append(rows, runAgain(b, left, right)...)
		}
		got, why := exec.Finish(b, catalog(), rows)
		if want := finishAgain(b, rows); why != api.OK || !same(got, want) {
			t.Fatalf("%s of %v: %v, error %d; not %v", q, rows, got, why, want)
		}
		if !slices.IsSortedFunc(got, value.CompareRows) {
			t.Fatalf("%s: %v is not in order", q, got)
		}
		d.Shuffle(len(rows), func(i, k int) { rows[i], rows[k] = rows[k], rows[i] })
		if mixed, _ := exec.Finish(b, catalog(), rows); !same(got, mixed) {
			t.Fatalf("%s of %v: %v; in another order %v", q, rows, mixed, got)
		}
		if len(rows) > len(got) && b.Grouped {
			some++
		}
	}
	if some < 1500 {
		t.Error("too few groups are put together:", some)
	}
}

// runPlan runs all fragments of a plan on the tables' shards, one by one, and is what comes to the coordinator.
func runPlan(t *testing.T, b api.Bound, frags []api.Frag, shards map[string][][]api.Row) (rows []api.Row) {
	t.Helper()
	sent := map[[2]int][]api.Row{} // by who sends, and to whom
	read := func(s api.Src, id int) (l []api.Row) {
		switch s.Kind {
		case api.SrcShard:
			return shards[s.Table][s.Shard]
		case api.SrcFrags:
			for _, from := range s.Frags {
				l = append(l, sent[[2]int{from, id}]...)
			}
		}
		return l
	}
	for _, f := range frags {
		lists, why := exec.Run(b, catalog(), f, read(f.Left, f.Id), read(f.Right, f.Id))
		if why != api.OK || len(lists) != max(1, len(f.To)) {
			t.Fatalf("Run(%+v, %+v) = %v, error %d", b, f, lists, why)
		}
		if !f.Raw {
			rows = append(rows, lists[0]...)
		}
		for i, to := range f.To {
			sent[[2]int{f.Id, to}] = lists[i]
		}
	}
	return rows
}

// randomClaim has any workers own the shards, each one at least.
func randomClaim(d *rand.Rand, name string, l api.Layout) api.Claim {
	c := api.Claim{Table: name, Cols: colsOf(name)}
	for range l.Shards {
		owners := []int{1 + d.IntN(l.Nodes-1)}
		for w := 1; w < l.Nodes; w++ {
			if d.IntN(2) == 0 && w != owners[0] {
				owners = append(owners, w)
			}
		}
		slices.Sort(owners)
		c.Owners = append(c.Owners, owners)
	}
	return c
}

func TestInPiecesAsWhole(t *testing.T) { // 8.4, P6
	d := rand.New(rand.NewPCG(8, 3))
	found := map[string]int{}
	for range 12000 {
		b := bound(t, randomQuery(d))
		nodes := 2 + d.IntN(api.MaxNodes-1)
		l := api.Layout{Nodes: nodes, Shards: pick(d, 1, 2, 3, 8), Replicas: 1 + d.IntN(nodes-1)}
		tables, claims, shards := catalog(), []api.Claim{}, map[string][][]api.Row{}
		for i := range tables {
			tables[i].Rows = randomRows(d, tables[i].Cols, pick(d, 0, 1, 4, 12, api.MaxRows))
			claims = append(claims, randomClaim(d, tables[i].Name, l))
			shards[tables[i].Name], _ = place.Split(l, tables[i])
		}
		alive := make([]bool, nodes)
		for w := range alive {
			alive[w] = d.IntN(8) > 0
		}
		frags, why := plan.Make(b, l, claims, alive)
		if why != api.OK {
			found["unavailable"]++
			continue
		}
		got, why := exec.Finish(b, catalog(), runPlan(t, b, frags, shards))
		want, _ := algebra.Run(b, tables)
		if why != api.OK || !same(got, want) {
			t.Fatalf("%+v, %v, %+v of %v: %v, error %d; not %v", b, l, frags, tables, got, why, want)
		}
		if len(want) > 0 && want[0][0] != null() {
			found[fmt.Sprint(b.Join != "", frags[0].Raw, frags[0].By < 0, b.Grouped, len(frags) == 1)]++
		}
	}
	// One table, side by side, broadcast and shuffled, each grouped and not, the first two with one fragment and several.
	if len(found) < 13 {
		t.Error("too few ways:", found)
	}
	for way, n := range found {
		if n < 10 {
			t.Errorf("%s: only %d", way, n)
		}
	}
}

func TestSumsInPieces(t *testing.T) { // 8.4: at the ends of 64 bits, wherever the rows are
	d := rand.New(rand.NewPCG(8, 4))
	numbers := []int64{math.MaxInt64, math.MinInt64, 1, -1, math.MaxInt64, math.MinInt64, 1 << 62, -1 << 62, 1<<32 - 1, -1 << 32}
	beyond := 0
	for range 3000 {
		tables := catalog()
		for range 1 + d.IntN(api.MaxRows) {
			tables[1].Rows = append(tables[1].Rows, api.Row{whole(int64(d.IntN(9))), whole(pick(d, numbers...)), null(), null()})
		}
		// What is missing to an end of 64 bits is put there, too, so that the sum is just there or one beyond.
		sum := new(big.Int)
		for _, r := range tables[1].Rows {
			sum.Add(sum, big.NewInt(r[1].N))
		}
		end := big.NewInt(pick[int64](d, math.MaxInt64, math.MinInt64))
		end.Add(end, big.NewInt(pick[int64](d, 0, 0, 1, -1))).Sub(end, sum)
		if end.IsInt64() && len(tables[1].Rows) < api.MaxRows {
			tables[1].Rows = append(tables[1].Rows, api.Row{whole(int64(d.IntN(9))), whole(end.Int64()), null(), null()})
		}
		l := api.Layout{Nodes: 4, Shards: pick(d, 1, 2, 3, 8), Replicas: 1}
		c := randomClaim(d, "t", l)
		shards, _ := place.Split(l, tables[1])
		b := bound(t, "(from t (get (sum a) (count)))")
		frags, _ := plan.Make(b, l, []api.Claim{c}, []bool{true, true, true, true})
		got, why := exec.Finish(b, catalog(), runPlan(t, b, frags, map[string][][]api.Row{"t": shards}))
		want, _ := algebra.Run(b, tables)
		if why != api.OK || !same(got, want) || len(got) != 1 {
			t.Fatalf("%v: %v, error %d; not %v", tables[1].Rows, got, why, want)
		}
		if got[0][0] == null() {
			beyond++
		}
	}
	if beyond < 300 || beyond > 2700 {
		t.Error("too few or too many are beyond an int64:", beyond)
	}
}
