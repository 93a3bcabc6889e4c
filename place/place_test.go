package place_test

import (
	"fmt"
	"math"
	"reflect"
	"slices"
	"strings"
	"testing"

	"potsherd/api"
	"potsherd/place"
	"potsherd/value"
)

func column(name string, k api.Kind) api.Col { return api.Col{Name: name, Kind: k} }
func boolean(b bool) api.Value               { return api.Value{Kind: api.KindBool, B: b} }
func whole(n int64) api.Value                { return api.Value{Kind: api.KindInt, N: n} }
func text(s string) api.Value                { return api.Value{Kind: api.KindText, S: s} }

func layout(nodes, shards, replicas int) api.Layout {
	return api.Layout{Nodes: nodes, Shards: shards, Replicas: replicas}
}

// layouts are all that are right.
func layouts() (l []api.Layout) {
	for nodes := 2; nodes <= api.MaxNodes; nodes++ {
		for shards := 1; shards <= api.MaxShards; shards++ {
			for replicas := 1; replicas < nodes; replicas++ {
				l = append(l, layout(nodes, shards, replicas))
			}
		}
	}
	return l
}

// wrongLayouts are one past each end, and far beyond.
func wrongLayouts() []api.Layout {
	return []api.Layout{
		{}, layout(1, 1, 1), layout(0, 1, 1), layout(-1, 1, 1), layout(api.MaxNodes+1, 1, 1), layout(math.MaxInt, 1, 1), layout(math.MinInt, 1, 1),
		layout(2, 0, 1), layout(2, -1, 1), layout(2, api.MaxShards+1, 1), layout(2, math.MaxInt, 1), layout(2, math.MinInt, 1),
		layout(2, 1, 0), layout(2, 1, -1), layout(2, 1, 2), layout(4, 3, 4), layout(8, 8, 8), layout(8, 8, math.MaxInt), layout(8, 8, math.MinInt),
		layout(1, 1, 0), layout(math.MinInt, 1, math.MaxInt),
	}
}

func TestCheck(t *testing.T) { // 6.1
	for _, l := range layouts() {
		if why := place.Check(l); why != api.OK {
			t.Errorf("Check(%v): error %d", l, why)
		}
	}
	for _, l := range wrongLayouts() {
		if why := place.Check(l); why != api.ErrRange {
			t.Errorf("Check(%v): error %d", l, why)
		}
	}
}

func TestLayoutIsAskedFirst(t *testing.T) { // 6.1, P2, P3: whatever else is wrong
	good, bad := table(3), api.Table{Name: strings.Repeat("a", 65)}
	c := claim(layout(2, 1, 1))
	for _, l := range wrongLayouts() {
		for _, shard := range []int{0, 1, -1} {
			if o, why := place.Owners(l, shard); len(o) != 0 || why != api.ErrRange {
				t.Errorf("Owners(%v, %d) = %v, error %d", l, shard, o, why)
			}
		}
		for _, r := range []api.Row{nil, {whole(1)}} {
			if s, why := place.Shard(l, r); s != 0 || why != api.ErrRange {
				t.Errorf("Shard(%v, %v) = %d, error %d", l, r, s, why)
			}
		}
		for _, x := range []api.Table{good, bad} {
			if all, why := place.Split(l, x); len(all) != 0 || why != api.ErrRange {
				t.Errorf("Split(%v) = %v, error %d", l, all, why)
			}
		}
		for _, x := range []api.Claim{c, {}} {
			if why := place.CheckClaim(l, x); why != api.ErrRange {
				t.Errorf("CheckClaim(%v): error %d", l, why)
			}
			for _, alive := range [][]bool{nil, {true, true}} {
				if p, why := place.Pick(l, x, alive); len(p) != 0 || why != api.ErrRange {
					t.Errorf("Pick(%v) = %v, error %d", l, p, why)
				}
			}
		}
	}
}

func TestOwners(t *testing.T) { // 6.1
	for _, x := range []struct {
		l     api.Layout
		shard int
		want  []int
	}{
		{layout(4, 3, 2), 0, []int{1, 2}},
		{layout(4, 3, 2), 1, []int{2, 3}},
		{layout(4, 3, 2), 2, []int{1, 3}}, // the chapter's example
		{layout(2, 8, 1), 7, []int{1}},
		{layout(4, 8, 1), 7, []int{2}},
		{layout(4, 3, 3), 2, []int{1, 2, 3}},
		{layout(8, 8, 7), 5, []int{1, 2, 3, 4, 5, 6, 7}},
		{layout(8, 8, 3), 5, []int{1, 6, 7}},
		{layout(8, 8, 3), 7, []int{1, 2, 3}},
		{layout(8, 7, 1), 6, []int{7}},
	} {
		if o, why := place.Owners(x.l, x.shard); !slices.Equal(o, x.want) || why != api.OK {
			t.Errorf("Owners(%v, %d) = %v, error %d; not %v", x.l, x.shard, o, why, x.want)
		}
	}
}

func TestOwnersOfAll(t *testing.T) { // 6.1, 6.5
	for _, l := range layouts() {
		for shard := range l.Shards {
			o, why := place.Owners(l, shard)
			if len(o) != l.Replicas || why != api.OK {
				t.Fatalf("Owners(%v, %d) = %v, error %d", l, shard, o, why)
			}
			for i, w := range o {
				if w < 1 || w >= l.Nodes || i > 0 && w <= o[i-1] {
					t.Fatalf("Owners(%v, %d) = %v", l, shard, o)
				}
				// Some r below Replicas leads to it.
				if r := (w - 1 - shard + 8*(l.Nodes-1)) % (l.Nodes - 1); r >= l.Replicas {
					t.Fatalf("Owners(%v, %d) = %v: %d is none", l, shard, o, w)
				}
			}
		}
		for _, shard := range []int{-1, l.Shards, l.Shards + 1, math.MaxInt, math.MinInt} {
			if o, why := place.Owners(l, shard); len(o) != 0 || why != api.ErrRange {
				t.Fatalf("Owners(%v, %d) = %v, error %d", l, shard, o, why)
			}
		}
	}
}

// odd are values, right and wrong ones.
func odd() []api.Value {
	return []api.Value{
		{}, boolean(false), boolean(true), whole(0), whole(1), whole(-1), whole(math.MaxInt64), whole(math.MinInt64), text(""), text("a"), text("é"),
		text(strings.Repeat("a", 5000)), text("\xff"), {N: 7}, {Kind: 9}, {Kind: 255, S: "a", B: true},
	}
}

func TestShard(t *testing.T) { // 6.1, 6.4
	for _, l := range layouts() {
		if s, why := place.Shard(l, nil); s != 0 || why != api.ErrMany {
			t.Fatalf("Shard(%v, nil) = %d, error %d", l, s, why)
		}
		if s, why := place.Shard(l, api.Row{}); s != 0 || why != api.ErrMany {
			t.Fatalf("Shard(%v, empty) = %d, error %d", l, s, why)
		}
		for _, v := range odd() {
			want := int(value.Hash(v) % uint64(l.Shards))
			for _, r := range []api.Row{{v}, {v, {}}, {v, whole(3), text("x")}, {v, {Kind: 77}}} {
				if s, why := place.Shard(l, r); s != want || why != api.OK {
					t.Fatalf("Shard(%v, %v) = %d, error %d; not %d", l, r, s, why, want)
				}
			}
		}
	}
}

func TestShardOfNull(t *testing.T) { // 6.1: its hash, 12638153115695167455, is above 2^63, and taken without a sign
	for shards, want := range map[int]int{1: 0, 2: 1, 3: 0, 4: 3, 5: 0, 6: 3, 7: 3, 8: 7} {
		if s, why := place.Shard(layout(2, shards, 1), api.Row{{}}); s != want || why != api.OK {
			t.Errorf("Shard of null, of %d: %d, error %d; not %d", shards, s, why, want)
		}
	}
}

// table is one of n rows, with a first column that comes again, and a second one that tells them apart.
func table(n int) api.Table {
	t := api.Table{Name: "t", Cols: []api.Col{column("k", api.KindText), column("n", api.KindInt)}}
	for i := range n {
		k := text(fmt.Sprint("é", i*i%23))
		if i%7 == 3 {
			k = api.Value{}
		}
		t.Rows = append(t.Rows, api.Row{k, whole(int64(i))})
	}
	return t
}

func TestSplit(t *testing.T) { // 6.1, 6.4
	for _, l := range layouts() {
		for _, n := range []int{0, 1, 5, api.MaxRows} {
			x := table(n)
			all, why := place.Split(l, x)
			if len(all) != l.Shards || why != api.OK {
				t.Fatalf("Split(%v) = %v, error %d", l, all, why)
			}
			want := make([][]api.Row, l.Shards)
			for _, r := range x.Rows {
				s := value.Hash(r[0]) % uint64(l.Shards)
				want[s] = append(want[s], r)
			}
			for s := range all {
				if len(all[s])+len(want[s]) > 0 && !reflect.DeepEqual(all[s], want[s]) {
					t.Fatalf("Split(%v): shard %d is %v; not %v", l, s, all[s], want[s])
				}
				for _, r := range all[s] {
					if got, why := place.Shard(l, r); got != s || why != api.OK {
						t.Fatalf("Shard(%v, %v) = %d, error %d; not %d", l, r, got, why, s)
					}
				}
			}
			if !value.SameBag(slices.Concat(all...), x.Rows) {
				t.Fatalf("Split(%v): not all rows once", l)
			}
		}
	}
}

func TestOneValueIsInOneShard(t *testing.T) { // 6.4
	l := layout(3, 8, 1)
	all, _ := place.Split(l, table(api.MaxRows))
	shard := map[api.Value]int{}
	filled := 0
	for s, rows := range all {
		if len(rows) > 0 {
			filled++
		}
		for _, r := range rows {
			if was, there := shard[r[0]]; there && was != s {
				t.Errorf("%v is in the shards %d and %d", r[0], was, s)
			}
			shard[r[0]] = s
		}
	}
	if filled < 4 {
		t.Error("only so many shards have rows:", filled)
	}
}

func TestSplitErrors(t *testing.T) { // 6.1, P2
	l := layout(3, 2, 1)
	change := func(f func(t *api.Table)) api.Table {
		t := table(5)
		f(&t)
		return t
	}
	for name, x := range map[string]struct {
		t    api.Table
		want api.Errno
	}{
		"zero":             {api.Table{}, api.ErrLong},
		"a long name":      {change(func(t *api.Table) { t.Name = strings.Repeat("a", 65) }), api.ErrLong},
		"a bad name":       {change(func(t *api.Table) { t.Name = "\xff" }), api.ErrUtf},
		"no columns":       {change(func(t *api.Table) { t.Cols = nil }), api.ErrMany},
		"a column twice":   {change(func(t *api.Table) { t.Cols[1].Name = "k" }), api.ErrTwice},
		"a kind that none": {change(func(t *api.Table) { t.Cols[1].Kind = api.KindNull }), api.ErrType},
		"a row too many":   {table(api.MaxRows + 1), api.ErrMany},
		"an empty row":     {change(func(t *api.Table) { t.Rows[4] = nil }), api.ErrMany},
		"a long row":       {change(func(t *api.Table) { t.Rows[4] = append(t.Rows[4], whole(1)) }), api.ErrMany},
		"another kind":     {change(func(t *api.Table) { t.Rows[4][1] = text("a") }), api.ErrType},
		"a long text":      {change(func(t *api.Table) { t.Rows[4][0] = text(strings.Repeat("a", 257)) }), api.ErrLong},
		"a bad text":       {change(func(t *api.Table) { t.Rows[4][0] = text("\xff") }), api.ErrUtf},
	} {
		if all, why := place.Split(l, x.t); len(all) != 0 || why != x.want || value.CheckTable(x.t) != x.want {
			t.Errorf("%s: %v, error %d; not %d", name, all, why, x.want)
		}
	}
}
