package publish_test

import (
	"fmt"
	"math"
	"reflect"
	"slices"
	"strings"
	"testing"

	"potsherd/api"
	"potsherd/place"
	"potsherd/publish"
	"potsherd/value"
	"potsherd/wire"
)

const most uint64 = math.MaxUint64

func layout(nodes, shards, replicas int) api.Layout {
	return api.Layout{Nodes: nodes, Shards: shards, Replicas: replicas}
}

func version() api.Version { return api.Version{Boot: 3, Load: 5} }

func whole(n int) api.Value { return api.Value{Kind: api.KindInt, N: int64(n)} }

func text(s string) api.Value { return api.Value{Kind: api.KindText, S: s} }

// table has so many rows.
func table(rows int) api.Table {
	t := api.Table{Name: "t", Cols: []api.Col{{Name: "k", Kind: api.KindInt}, {Name: "s", Kind: api.KindText}}}
	for i := range rows {
		t.Rows = append(t.Rows, api.Row{whole(i / 2), text(fmt.Sprint("row ", i))})
	}
	return t
}

// wide is the layout of most of these tests: its shards are owned by 1 and 2, by 2 and 3, by 1 and 3.
func wide() api.Layout { return layout(4, 3, 2) }

// load is one of the wide layout that these nodes have said to keep the shards of.
func load(acks ...[]int) api.Load {
	return api.Load{N: 5, Table: table(20), Version: version(), Acks: append(acks, make([][]int, 3-len(acks))...)}
}

func changed(change func(x *api.Load)) api.Load {
	x := load([]int{1}, []int{2, 3}, nil)
	change(&x)
	return x
}

// tidy is a new x whose empty lists are nil.
func tidy(x any) any {
	var walk func(v reflect.Value) reflect.Value
	walk = func(v reflect.Value) reflect.Value {
		out := reflect.New(v.Type()).Elem()
		out.Set(v)
		switch v.Kind() {
		case reflect.Slice:
			out.SetZero()
			for i := range v.Len() {
				out.Set(reflect.Append(out, walk(v.Index(i))))
			}
		case reflect.Struct:
			for i := range v.NumField() {
				out.Field(i).Set(walk(v.Field(i)))
			}
		}
		return out
	}
	return walk(reflect.ValueOf(x)).Interface()
}

// alike tells whether two things are, nil and empty lists being so.
func alike(a, b any) bool { return reflect.DeepEqual(tidy(a), tidy(b)) }

// rightLayouts are some, the least and the greatest among them.
func rightLayouts() []api.Layout {
	return []api.Layout{layout(2, 1, 1), layout(3, 1, 2), layout(3, 2, 1), wide(), layout(8, 8, 7), layout(8, 8, 1), layout(5, 7, 3)}
}

func wrongLayouts() []api.Layout {
	return []api.Layout{{}, layout(1, 1, 1), layout(9, 1, 1), layout(4, 0, 1), layout(4, 9, 1), layout(4, 3, 0), layout(4, 3, 4), layout(4, math.MaxInt, 1), layout(-1, -1, -1)}
}

// wrongTables are some, and why they are.
func wrongTables() map[string]struct {
	table api.Table
	why   api.Errno
} {
	with := func(change func(t *api.Table)) api.Table {
		t := table(9)
		change(&t)
		return t
	}
	return map[string]struct {
		table api.Table
		why   api.Errno
	}{
		"nothing":          {api.Table{}, api.ErrLong},
		"no name":          {with(func(t *api.Table) { t.Name = "" }), api.ErrLong},
		"a long name":      {with(func(t *api.Table) { t.Name = strings.Repeat("n", 65) }), api.ErrLong},
		"a bad name":       {with(func(t *api.Table) { t.Name = "\xff" }), api.ErrUtf},
		"no columns":       {with(func(t *api.Table) { t.Cols = nil }), api.ErrMany},
		"too many columns": {with(func(t *api.Table) { t.Cols = make([]api.Col, 9) }), api.ErrMany},
		"a column twice":   {with(func(t *api.Table) { t.Cols[1] = t.Cols[0] }), api.ErrTwice},
		"a column of null": {with(func(t *api.Table) { t.Cols[1].Kind = api.KindNull }), api.ErrType},
		"too many rows":    {table(65), api.ErrMany},
		"a short row":      {with(func(t *api.Table) { t.Rows[8] = t.Rows[8][:1] }), api.ErrMany},
		"another kind":     {with(func(t *api.Table) { t.Rows[8][0] = text("x") }), api.ErrType},
		"a long text":      {with(func(t *api.Table) { t.Rows[8][1] = text(strings.Repeat("x", 257)) }), api.ErrLong},
		"a bad text":       {with(func(t *api.Table) { t.Rows[8][1] = text("\xff") }), api.ErrUtf},
	}
}

func TestBegin(t *testing.T) { // 17.1
	for _, l := range rightLayouts() {
		for _, rows := range []int{0, 1, 9, 64} {
			for _, n := range []uint64{0, 1, most} {
				v := api.Version{Boot: n, Load: most - n}
				x, why := publish.Begin(l, n, table(rows), v)
				want := api.Load{N: n, Table: table(rows), Version: v, Acks: make([][]int, l.Shards)}
				if why != api.OK || !alike(x, want) {
					t.Errorf("%v: Begin is %v, error %d", l, x, why)
				}
				if why := publish.Check(l, x); why != api.OK {
					t.Errorf("%v: Check of %v: error %d", l, x, why)
				}
			}
		}
	}
}

func TestBeginErrors(t *testing.T) { // 17.1, P2, P3: place.Check's error is told ahead of value.CheckTable's
	for name, w := range wrongTables() {
		if why := value.CheckTable(w.table); why != w.why {
			t.Fatalf("%s: error %d", name, why)
		}
		for _, l := range rightLayouts() {
			if x, why := publish.Begin(l, 5, w.table, version()); why != w.why || !alike(x, api.Load{}) {
				t.Errorf("%s: Begin is %v, error %d", name, x, why)
			}
		}
		for _, l := range wrongLayouts() {
			if x, why := publish.Begin(l, 5, w.table, version()); why != api.ErrRange || !alike(x, api.Load{}) {
				t.Errorf("%s, %v: Begin is %v, error %d", name, l, x, why)
			}
		}
	}
	for _, l := range wrongLayouts() {
		if x, why := publish.Begin(l, 5, table(3), version()); why != api.ErrRange || !alike(x, api.Load{}) {
			t.Errorf("%v: Begin is %v, error %d", l, x, why)
		}
	}
}

// long is a table of eight columns, whose rows with these keys have as long texts as may be.
func long(keys ...int) api.Table {
	t := api.Table{Name: "long", Cols: []api.Col{{Name: "k", Kind: api.KindInt}}}
	for i := range 7 {
		t.Cols = append(t.Cols, api.Col{Name: fmt.Sprint("s", i), Kind: api.KindText})
	}
	for _, k := range keys {
		r := api.Row{whole(k)}
		for range 7 {
			r = append(r, text(strings.Repeat("x", 256)))
		}
		t.Rows = append(t.Rows, r)
	}
	return t
}

func size(t *testing.T, f api.File) int {
	t.Helper()
	s, why := wire.Write(api.Msg{Kind: api.MsgInstall, File: f})
	if why != api.OK {
		t.Fatal("wire.Write: error", why)
	}
	return len(s)
}

func TestBeginOfTooMuch(t *testing.T) { // 17.1: just MaxBytes, and one more
	x := long(slices.Repeat([]int{1}, 36)...)
	// The last row's text has as many bytes as are missing.
	last := api.Row{whole(1), {}, {}, {}, {}, {}, {}, text("")}
	x.Rows = append(x.Rows, last)
	file := api.File{Table: x.Name, Version: version(), Cols: x.Cols, Rows: x.Rows}
	last[7].S = strings.Repeat("y", api.MaxBytes-size(t, file))
	one := layout(3, 1, 2)
	if n := size(t, file); n != api.MaxBytes {
		t.Fatal("the size is", n)
	}
	if got, why := publish.Begin(one, 5, x, version()); why != api.OK || !alike(got.Table, x) {
		t.Error("as long as may be: error", why)
	}
	last[7].S += "y"
	if got, why := publish.Begin(one, 5, x, version()); why != api.ErrLong || !alike(got, api.Load{}) {
		t.Error("one byte more: error", why)
	}
	last[7].S = last[7].S[1:]
	v := version()
	v.Load = 128 // a byte longer, too
	if _, why := publish.Begin(one, 5, x, v); why != api.ErrLong {
		t.Error("a longer version: error", why)
	}
}

func TestBeginOfTooMuchInAShard(t *testing.T) { // 17.1: one of its files is enough
	l := layout(4, 3, 1)
	var of [3][]int // keys by shard
	for k := range 400 {
		s, _ := place.Shard(l, api.Row{whole(k)})
		of[s] = append(of[s], k)
	}
	for s := range 3 {
		if _, why := publish.Begin(l, 5, long(of[s][:40]...), version()); why != api.ErrLong {
			t.Errorf("all in shard %d: error %d", s, why)
		}
		most := slices.Concat(of[(s+1)%3][:20], of[s][:40])
		if _, why := publish.Begin(l, 5, long(most...), version()); why != api.ErrLong {
			t.Errorf("most in shard %d: error %d", s, why)
		}
	}
	spread := long(slices.Concat(of[0][:20], of[1][:20], of[2][:20])...)
	if x, why := publish.Begin(l, 5, spread, version()); why != api.OK || len(publish.Wants(l, x)) != 3 {
		t.Error("spread: error", why)
	}
	if _, why := publish.Begin(layout(4, 1, 1), 5, spread, version()); why != api.ErrLong {
		t.Error("all in one: error", why)
	}
}

// wrong are loads that are not right of the wide layout.
func wrong() map[string]api.Load {
	l := map[string]api.Load{
		"nothing":                    {},
		"no Acks":                    changed(func(x *api.Load) { x.Acks = nil }),
		"a list of Acks less":        changed(func(x *api.Load) { x.Acks = x.Acks[:2] }),
		"a list of Acks more":        changed(func(x *api.Load) { x.Acks = append(x.Acks, nil) }),
		"a list of Acks of no shard": changed(func(x *api.Load) { x.Acks = append(x.Acks, []int{1}) }),
		"falling":                    changed(func(x *api.Load) { x.Acks[0] = []int{2, 1} }),
		"twice":                      changed(func(x *api.Load) { x.Acks[0] = []int{1, 1} }),
		"twice, the last":            changed(func(x *api.Load) { x.Acks[0] = []int{1, 2, 2} }),
		"no owner":                   changed(func(x *api.Load) { x.Acks[0] = []int{3} }),
		"no owner behind owners":     changed(func(x *api.Load) { x.Acks[0] = []int{1, 2, 3} }),
		"no owner between":           changed(func(x *api.Load) { x.Acks[2] = []int{1, 2, 3} }),
		"no owner of the last":       changed(func(x *api.Load) { x.Acks[2] = []int{2} }),
		"the coordinator":            changed(func(x *api.Load) { x.Acks[0] = []int{0, 1} }),
		"below":                      changed(func(x *api.Load) { x.Acks[0] = []int{-1, 1} }),
		"no node":                    changed(func(x *api.Load) { x.Acks[0] = []int{1, 4} }),
		"far":                        changed(func(x *api.Load) { x.Acks[0] = []int{math.MinInt, math.MaxInt} }),
	}
	for name, w := range wrongTables() {
		l["a table: "+name] = changed(func(x *api.Load) { x.Table = w.table })
	}
	return l
}

func right() map[string]api.Load {
	return map[string]api.Load{
		"no acks":           load(),
		"some":              changed(func(x *api.Load) {}),
		"all":               load([]int{1, 2}, []int{2, 3}, []int{1, 3}),
		"the second owners": load([]int{2}, []int{3}, []int{3}),
		"empty, not nil":    changed(func(x *api.Load) { x.Acks[2] = []int{} }),
		"no numbers":        changed(func(x *api.Load) { x.N, x.Version = 0, api.Version{} }),
		"great numbers":     changed(func(x *api.Load) { x.N, x.Version = most, api.Version{Boot: most, Load: most} }),
		"no rows":           changed(func(x *api.Load) { x.Table = table(0) }),
		"all rows":          changed(func(x *api.Load) { x.Table = table(64) }),
		"too long":          changed(func(x *api.Load) { x.Table = long(slices.Repeat([]int{1}, 64)...) }),
	}
}

func TestCheck(t *testing.T) { // 17.1
	for name, x := range right() {
		if why := publish.Check(wide(), x); why != api.OK {
			t.Errorf("%s: error %d", name, why)
		}
		for _, l := range wrongLayouts() {
			if why := publish.Check(l, x); why != api.ErrState {
				t.Errorf("%s, %v: error %d", name, l, why)
			}
		}
	}
	for name, x := range wrong() {
		if why := publish.Check(wide(), x); why != api.ErrState {
			t.Errorf("%s: error %d", name, why)
		}
	}
	x := load([]int{1}, []int{2}, []int{3})
	for l, want := range map[api.Layout]api.Errno{
		layout(4, 3, 1): api.OK, layout(4, 3, 3): api.OK, layout(5, 3, 1): api.OK, layout(4, 2, 1): api.ErrState, layout(4, 4, 1): api.ErrState, layout(3, 3, 1): api.ErrState, layout(3, 3, 2): api.ErrState,
	} {
		if why := publish.Check(l, x); why != want {
			t.Errorf("%v: error %d", l, why)
		}
	}
}

// all are alive.
func all() []bool { return slices.Repeat([]bool{true}, 8) }

func TestLoadThatIsNotRight(t *testing.T) { // 17.2
	check := func(name string, l api.Layout, x api.Load) {
		if p := publish.Wants(l, x); len(p) > 0 {
			t.Errorf("%s: Wants is %v", name, p)
		}
		for from := range 4 {
			for s := range 3 {
				if got := publish.Installed(l, x, from, told(x, s)); !alike(got, x) {
					t.Errorf("%s: Installed is %v", name, got)
				}
			}
		}
		for _, alive := range [][]bool{all(), nil} {
			if s := publish.State(l, x, alive); s != api.LoadLost {
				t.Errorf("%s: State is %d", name, s)
			}
		}
		if c := publish.Claim(l, x); !alike(c, api.Claim{}) {
			t.Errorf("%s: Claim is %v", name, c)
		}
	}
	for name, x := range wrong() {
		check(name, wide(), x)
	}
	for _, l := range wrongLayouts() {
		check("a layout that is not right", l, load([]int{1, 2}, []int{2, 3}, []int{1, 3}))
	}
	check("another layout", layout(4, 2, 2), load([]int{1, 2}, []int{2, 3}, []int{1, 3}))
}

// told is the message that tells that a shard of x is kept.
func told(x api.Load, shard int) api.Msg {
	return api.Msg{Kind: api.MsgInstalled, File: api.File{Table: x.Table.Name, Version: x.Version, Shard: shard, Cols: x.Table.Cols}}
}

// wants are posts of a load of the wide layout: pairs of a node and a shard.
func wants(x api.Load, pairs ...[2]int) (l []api.Post) {
	rows, _ := place.Split(wide(), x.Table)
	for _, p := range pairs {
		f := api.File{Table: x.Table.Name, Version: x.Version, Shard: p[1], Cols: x.Table.Cols, Rows: rows[p[1]]}
		l = append(l, api.Post{To: p[0], Msg: api.Msg{Kind: api.MsgInstall, File: f}})
	}
	return l
}

func TestWants(t *testing.T) { // 17.2
	for name, x := range map[string]struct {
		load api.Load
		want [][2]int
	}{
		"nobody has anything": {load(), [][2]int{{1, 0}, {2, 0}, {2, 1}, {3, 1}, {1, 2}, {3, 2}}},
		"some":                {load([]int{1}, []int{2, 3}, nil), [][2]int{{2, 0}, {1, 2}, {3, 2}}},
		"the second ones":     {load([]int{2}, []int{3}, []int{3}), [][2]int{{1, 0}, {2, 1}, {1, 2}}},
		"one is missing":      {load([]int{1, 2}, []int{2, 3}, []int{1}), [][2]int{{3, 2}}},
		"all":                 {load([]int{1, 2}, []int{2, 3}, []int{1, 3}), nil},
	} {
		if p := publish.Wants(wide(), x.load); !alike(p, wants(x.load, x.want...)) {
			t.Errorf("%s: Wants is %v", name, p)
		}
	}
	x := changed(func(x *api.Load) { x.Table = table(0) })
	if p := publish.Wants(wide(), x); !alike(p, wants(x, [2]int{2, 0}, [2]int{1, 2}, [2]int{3, 2})) {
		t.Errorf("without rows: Wants is %v", p)
	}
	x = changed(func(x *api.Load) { x.Table = long(slices.Repeat([]int{1}, 64)...) }) // made by hand: too long to be sent
	if p := publish.Wants(wide(), x); len(p) != 3 {
		t.Errorf("too long: Wants is %v", p)
	}
	for _, l := range rightLayouts() { // what is begun may be sent, to owners alone
		x, _ := publish.Begin(l, 5, table(64), version())
		p := publish.Wants(l, x)
		if len(p) != l.Shards*l.Replicas {
			t.Errorf("%v: %d are wanted", l, len(p))
		}
		for i, p := range p {
			owners, _ := place.Owners(l, i/l.Replicas)
			if p.To != owners[i%l.Replicas] || p.Msg.File.Shard != i/l.Replicas || wire.Check(p.Msg) != api.OK {
				t.Errorf("%v: %d: %v is wanted", l, i, p)
			}
		}
	}
}

func TestInstalled(t *testing.T) { // 17.2
	x := load([]int{2}, nil, []int{1, 3})
	for name, y := range map[string]struct {
		from, shard int
		want        [][]int
	}{
		"ahead of another":    {1, 0, [][]int{{1, 2}, nil, {1, 3}}},
		"the first":           {3, 1, [][]int{{2}, {3}, {1, 3}}},
		"twice":               {2, 0, [][]int{{2}, nil, {1, 3}}},
		"all did":             {3, 2, [][]int{{2}, nil, {1, 3}}},
		"no owner":            {3, 0, [][]int{{2}, nil, {1, 3}}},
		"no owner of a third": {2, 2, [][]int{{2}, nil, {1, 3}}},
		"the coordinator":     {0, 0, [][]int{{2}, nil, {1, 3}}},
		"no node":             {4, 0, [][]int{{2}, nil, {1, 3}}},
		"below":               {-1, 0, [][]int{{2}, nil, {1, 3}}},
		"no shard":            {1, 3, [][]int{{2}, nil, {1, 3}}},
		"a shard below":       {1, -1, [][]int{{2}, nil, {1, 3}}},
		"a shard beyond all":  {1, math.MaxInt, [][]int{{2}, nil, {1, 3}}},
		"a shard below all":   {1, math.MinInt, [][]int{{2}, nil, {1, 3}}},
	} {
		if got := publish.Installed(wide(), x, y.from, told(x, y.shard)); !alike(got, load(y.want...)) {
			t.Errorf("%s: Installed is %v", name, got.Acks)
		}
	}
	bare := told(x, 1)
	bare.File.Cols = nil
	if got := publish.Installed(wide(), x, 3, bare); !alike(got, load([]int{2}, []int{3}, []int{1, 3})) {
		t.Errorf("without columns: Installed is %v", got.Acks)
	}
	behind := load([]int{1}, nil, nil)
	if got := publish.Installed(wide(), behind, 2, told(x, 0)); !alike(got, load([]int{1, 2}, nil, nil)) {
		t.Errorf("behind another: Installed is %v", got.Acks)
	}
}

func TestInstalledOfSomethingElse(t *testing.T) { // 17.2
	x := load([]int{2}, nil, []int{1, 3})
	other := func(change func(m *api.Msg)) api.Msg {
		m := told(x, 0)
		change(&m)
		return m
	}
	for name, m := range map[string]api.Msg{
		"another table":  other(func(m *api.Msg) { m.File.Table = "u" }),
		"no table":       other(func(m *api.Msg) { m.File.Table = "" }),
		"another boot":   other(func(m *api.Msg) { m.File.Version.Boot++ }),
		"another load":   other(func(m *api.Msg) { m.File.Version.Load-- }),
		"no version":     other(func(m *api.Msg) { m.File.Version = api.Version{} }),
		"an Install":     other(func(m *api.Msg) { m.Kind = api.MsgInstall }),
		"a Start":        other(func(m *api.Msg) { m.Kind = api.MsgStart }),
		"of no kind":     other(func(m *api.Msg) { m.Kind = api.MsgNone }),
		"of a kind more": other(func(m *api.Msg) { m.Kind = api.MsgCount }),
		"nothing":        {},
	} {
		for from := -1; from < 9; from++ {
			if got := publish.Installed(wide(), x, from, m); !alike(got, x) {
				t.Errorf("%s from %d: Installed is %v", name, from, got.Acks)
			}
		}
	}
}

func TestState(t *testing.T) { // 17.2
	const on, off = true, false
	none, some, every := load(), load([]int{1}, []int{2, 3}, []int{3}), load([]int{1, 2}, []int{2, 3}, []int{1, 3})
	for _, x := range []struct {
		name  string
		load  api.Load
		alive []bool
		want  api.LoadState
	}{
		{"nobody has anything", none, []bool{on, on, on, on}, api.LoadWaits},
		{"an owner of each is alive", none, []bool{off, on, on, off}, api.LoadWaits},
		{"another one of each", none, []bool{off, off, on, on}, api.LoadWaits},
		{"a shard without", none, []bool{on, on, off, off}, api.LoadLost},
		{"nobody is alive", none, nil, api.LoadLost},
		{"only the coordinator is", none, []bool{on, off, off, off}, api.LoadLost},
		{"one is missing of two shards", some, []bool{on, on, on, on}, api.LoadWaits},
		{"one that is missing is dead", some, []bool{on, off, on, on}, api.LoadWaits},
		{"both are dead", some, []bool{on, off, off, on}, api.LoadReady},
		{"all of those that have it are dead", some, []bool{on, off, on, off}, api.LoadWaits},
		{"all are dead, each is kept", some, nil, api.LoadReady},
		{"all have all", every, []bool{on, on, on, on}, api.LoadReady},
		{"all have all, some are dead", every, []bool{on, off, on, off}, api.LoadReady},
		{"all have all, none is alive", every, []bool{}, api.LoadReady},
		{"one kept by nobody, its owners dead", load([]int{1, 2}, []int{2, 3}, nil), []bool{on, off, on, off}, api.LoadLost},
		{"one kept by nobody, an owner alive", load([]int{1, 2}, []int{2, 3}, nil), []bool{on, off, on, on}, api.LoadWaits},
		{"lost, while another one waits", load([]int{1}, nil, nil), []bool{on, on, off, off}, api.LoadLost},
		{"the first is lost, others wait", load(nil, []int{2}, []int{1}), []bool{on, off, off, on}, api.LoadLost},
		{"nodes that are none are no matter", every, slices.Repeat([]bool{on}, 99), api.LoadReady},
	} {
		if got := publish.State(wide(), x.load, x.alive); got != x.want {
			t.Errorf("%s: State is %d", x.name, got)
		}
	}
}

func TestStateBeyondAlive(t *testing.T) { // 17.2: a node beyond alive's length is not alive
	x := load([]int{1}, []int{2}, []int{1})
	// Once 2 is told of, it is missed, as it has not said that it has the first shard.
	for n, want := range []api.LoadState{api.LoadReady, api.LoadReady, api.LoadReady, api.LoadWaits, api.LoadWaits} {
		if got := publish.State(wide(), x, all()[:n]); got != want {
			t.Errorf("%d are told: State is %d", n, got)
		}
	}
	two, one := layout(3, 1, 2), load()
	one.Acks = [][]int{{1}} // the chapter's example
	if got := publish.State(two, one, []bool{true, true, true}); got != api.LoadWaits {
		t.Error("both alive: State is", got)
	}
	for _, alive := range [][]bool{{true, true, false}, {true, true}} {
		if got := publish.State(two, one, alive); got != api.LoadReady {
			t.Error("one's lease is over: State is", got)
		}
	}
}

func TestClaim(t *testing.T) { // 17.2, 17.4
	for name, x := range right() {
		want := api.Claim{Table: x.Table.Name, Cols: x.Table.Cols, Version: x.Version, Owners: x.Acks}
		if c := publish.Claim(wide(), x); !alike(c, want) {
			t.Errorf("%s: Claim is %v", name, c)
		}
		isReady := publish.State(wide(), x, nil) == api.LoadReady
		if why := place.CheckClaim(wide(), publish.Claim(wide(), x)); (why == api.OK) != isReady {
			t.Errorf("%s: CheckClaim: error %d", name, why)
		}
	}
}
