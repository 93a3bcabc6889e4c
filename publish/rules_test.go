package publish_test

import (
	"maps"
	"math/rand/v2"
	"reflect"
	"runtime"
	"slices"
	"strings"
	"sync"
	"testing"
	"unsafe"

	"potsherd/api"
	"potsherd/place"
	"potsherd/publish"
	"potsherd/value"
	"potsherd/wire"
)

func pick[T any](r *rand.Rand, l ...T) T { return l[r.IntN(len(l))] }

// diary is a load once more: who said to keep what, in the order in which they said so.
type diary struct {
	layout api.Layout
	said   [][2]int // a node and a shard
}

// owns is the owners' rule once more.
func (d *diary) owns(node, shard int) bool {
	for r := range d.layout.Replicas {
		if shard >= 0 && shard < d.layout.Shards && node == 1+(shard+r)%(d.layout.Nodes-1) {
			return true
		}
	}
	return false
}

// has tells whether a node that is to keep a shard said that it does.
func (d *diary) has(node, shard int) bool {
	return d.owns(node, shard) && slices.Contains(d.said, [2]int{node, shard})
}

func (d *diary) acks() [][]int {
	l := make([][]int, d.layout.Shards)
	for s := range l {
		for node := range 9 {
			if d.has(node, s) {
				l[s] = append(l[s], node)
			}
		}
	}
	return l
}

func (d *diary) state(alive []bool) api.LoadState {
	isReady, isLost := true, false
	for s := range d.layout.Shards {
		acked, live, missing := 0, 0, 0
		for node := range 9 {
			isAlive := node < len(alive) && alive[node]
			if d.has(node, s) {
				acked++
			} else if d.owns(node, s) && isAlive {
				missing++
			}
			if d.owns(node, s) && isAlive {
				live++
			}
		}
		isReady = isReady && acked > 0 && missing == 0
		isLost = isLost || acked == 0 && live == 0
	}
	switch {
	case isReady:
		return api.LoadReady
	case isLost:
		return api.LoadLost
	}
	return api.LoadWaits
}

func randomTable(r *rand.Rand) api.Table {
	t := table(0)
	for i := range r.IntN(30) {
		t.Rows = append(t.Rows, api.Row{pick(r, api.Value{}, whole(i), whole(r.IntN(5))), pick(r, api.Value{}, text("x"), text(strings.Repeat("é", i)))})
	}
	return t
}

func randomLayout(r *rand.Rand) api.Layout {
	nodes := 2 + r.IntN(7)
	return layout(nodes, 1+r.IntN(8), 1+r.IntN(nodes-1))
}

func randomAlive(r *rand.Rand) []bool {
	alive := make([]bool, r.IntN(10))
	few := r.IntN(4)
	for i := range alive {
		alive[i] = r.IntN(4) >= few
	}
	return alive
}

// holdWants says that what a load wants is all that was not said, and the table's own.
func holdWants(t *testing.T, d *diary, x api.Load) {
	t.Helper()
	rows, why := place.Split(d.layout, x.Table)
	var want []api.Post
	for s := range d.layout.Shards {
		for node := range 9 {
			if d.owns(node, s) && !d.has(node, s) {
				f := api.File{Table: x.Table.Name, Version: x.Version, Shard: s, Cols: x.Table.Cols, Rows: rows[s]}
				want = append(want, api.Post{To: node, Msg: api.Msg{Kind: api.MsgInstall, File: f}})
			}
		}
	}
	if got := publish.Wants(d.layout, x); why != api.OK || !alike(got, want) {
		t.Fatalf("%v, %v: Wants is %v; not %v", d.layout, x.Acks, got, want)
	}
}

func TestAsTheDocumentSays(t *testing.T) { // 17.1, 17.2, 17.4
	r := rand.New(rand.NewPCG(17, 1))
	seen := make(map[api.LoadState]int)
	for range 600 {
		d := &diary{layout: randomLayout(r)}
		n := r.Uint64()
		x, why := publish.Begin(d.layout, n, randomTable(r), version())
		begun := x
		for range 1 + r.IntN(60) {
			from, shard := r.IntN(9), r.IntN(9)-1
			m := told(x, shard)
			if isOther := r.IntN(6) == 0; isOther {
				m.File.Version.Load += uint64(r.IntN(2))
				m.File.Table += pick(r, "", "x")
				m.Kind = pick(r, api.MsgInstalled, api.MsgInstall)
			}
			if alike(m, told(x, shard)) {
				d.said = append(d.said, [2]int{from, shard})
			}
			x = publish.Installed(d.layout, x, from, m)
			if why = publish.Check(d.layout, x); why != api.OK || !alike(x.Acks, d.acks()) {
				t.Fatalf("%v: %v, error %d; not %v", d.layout, x.Acks, why, d.acks())
			}
			alive := randomAlive(r)
			state := publish.State(d.layout, x, alive)
			if state != d.state(alive) {
				t.Fatalf("%v, %v, %v: State is %d; not %d", d.layout, x.Acks, alive, state, d.state(alive))
			}
			seen[state]++
			c := publish.Claim(d.layout, x)
			if state == api.LoadReady && place.CheckClaim(d.layout, c) != api.OK {
				t.Fatalf("%v: ready, and %v is not right", d.layout, c)
			}
			if !alike(c, api.Claim{Table: x.Table.Name, Cols: x.Table.Cols, Version: x.Version, Owners: d.acks()}) {
				t.Fatalf("%v: Claim is %v; not of %v", d.layout, c, d.acks())
			}
		}
		holdWants(t, d, x)
		x.Acks = begun.Acks
		if !alike(x, begun) || x.N != n {
			t.Fatalf("of %v became %v", begun, x)
		}
	}
	for s := range api.LoadLost + 1 {
		if seen[s] < 500 {
			t.Errorf("State was %d only %d times", s, seen[s])
		}
	}
}

func TestAllOfIt(t *testing.T) { // 17.5: the files are together just the table
	r := rand.New(rand.NewPCG(17, 2))
	for range 500 {
		l, in := randomLayout(r), randomTable(r)
		x, _ := publish.Begin(l, 1, in, version())
		files := make(map[int]api.File)
		for _, p := range publish.Wants(l, x) {
			if f, ok := files[p.Msg.File.Shard]; ok && !alike(f, p.Msg.File) {
				t.Fatalf("two files of a shard: %v and %v", f, p.Msg.File)
			}
			files[p.Msg.File.Shard] = p.Msg.File
			if wire.Check(p.Msg) != api.OK {
				t.Fatalf("%v can't be sent", p.Msg)
			}
		}
		var rows []api.Row
		for s := range l.Shards {
			f, ok := files[s]
			if !ok || f.Table != in.Name || !alike(f.Cols, in.Cols) || f.Version != version() {
				t.Fatalf("shard %d is %v", s, f)
			}
			for _, row := range f.Rows {
				if own, _ := place.Shard(l, row); own != s {
					t.Fatalf("%v is in shard %d", row, s)
				}
			}
			rows = append(rows, f.Rows...)
		}
		if !value.SameBag(rows, in.Rows) || len(files) != l.Shards {
			t.Fatalf("%v is brought as %v", in.Rows, rows)
		}
	}
}

// span is a piece of memory.
type span struct{ from, to uintptr }

// memory is where v's lists, with the room behind them, and its texts lie.
func memory(v reflect.Value) (l []span) {
	switch v.Kind() {
	case reflect.String:
		if s := v.String(); s != "" {
			p := uintptr(unsafe.Pointer(unsafe.StringData(s)))
			l = append(l, span{p, p + uintptr(len(s))})
		}
	case reflect.Slice:
		if n := uintptr(v.Cap()) * v.Type().Elem().Size(); n > 0 {
			l = append(l, span{v.Pointer(), v.Pointer() + n})
		}
		for i := range v.Len() {
			l = append(l, memory(v.Index(i))...)
		}
	case reflect.Struct:
		for i := range v.NumField() {
			l = append(l, memory(v.Field(i))...)
		}
	}
	return l
}

// share tells whether two of these pieces lie over each other.
func share(l ...[]span) bool {
	all := slices.Concat(l...)
	slices.SortFunc(all, func(a, b span) int {
		if a.from < b.from {
			return -1
		}
		return 1
	})
	for i := range all {
		if i > 0 && all[i].from < all[i-1].to {
			return true
		}
	}
	return false
}

// given is what calls are handed.
type given struct {
	Layout api.Layout
	Load   api.Load
	From   int
	Msg    api.Msg
	Alive  []bool
}

// answer is all that is answered.
type answer struct {
	Begun, Installed api.Load
	Why, Checked     api.Errno
	Wants            []api.Post
	State            api.LoadState
	Claim            api.Claim
}

func answers(x given) (a answer) {
	a.Begun, a.Why = publish.Begin(x.Layout, x.Load.N, x.Load.Table, x.Load.Version)
	a.Checked = publish.Check(x.Layout, x.Load)
	a.Wants = publish.Wants(x.Layout, x.Load)
	a.Installed = publish.Installed(x.Layout, x.Load, x.From, x.Msg)
	a.State = publish.State(x.Layout, x.Load, x.Alive)
	a.Claim = publish.Claim(x.Layout, x.Load)
	return a
}

// walk makes a new v, of whose texts and lists it is told what becomes.
func walk(v reflect.Value, list func(v reflect.Value) reflect.Value) reflect.Value {
	x := reflect.New(v.Type()).Elem()
	x.Set(v)
	switch v.Kind() {
	case reflect.String:
		x.SetString(strings.Clone(v.String()))
	case reflect.Slice:
		x.Set(list(v))
	case reflect.Struct:
		for i := range v.NumField() {
			x.Field(i).Set(walk(v.Field(i), list))
		}
	}
	return x
}

// roomy is a new x whose lists, even those without parts, have room behind them, in which something stands.
func roomy(x given) given {
	var list func(v reflect.Value) reflect.Value
	list = func(v reflect.Value) reflect.Value {
		n := v.Len()
		l := reflect.MakeSlice(v.Type(), n+1, n+2)
		for i := range n {
			l.Index(i).Set(walk(v.Index(i), list))
		}
		if l.Index(n).CanInt() {
			l.Index(n).SetInt(77)
		}
		return l.Slice(0, n)
	}
	return walk(reflect.ValueOf(x), list).Interface().(given)
}

// behind is x with what stands in the room behind its lists.
func behind(x given) given {
	var list func(v reflect.Value) reflect.Value
	list = func(v reflect.Value) reflect.Value {
		whole := v.Slice3(0, v.Cap(), v.Cap())
		l := reflect.MakeSlice(v.Type(), v.Cap(), v.Cap())
		for i := range v.Cap() {
			l.Index(i).Set(walk(whole.Index(i), list))
		}
		return l
	}
	return walk(reflect.ValueOf(x), list).Interface().(given)
}

func givens() (l []given) {
	for _, name := range slices.Sorted(maps.Keys(right())) {
		x := right()[name]
		l = append(l, given{wide(), x, 3, told(x, 1), all()}, given{wide(), x, 1, told(x, 2), nil}, given{wide(), x, 2, told(x, 2), all()[:3]})
	}
	for _, name := range slices.Sorted(maps.Keys(wrong())) {
		x := wrong()[name]
		l = append(l, given{wide(), x, 1, told(x, 0), all()})
	}
	return append(l, given{layout(9, 1, 1), load(), 1, told(load(), 0), all()}, given{})
}

func TestNewMemory(t *testing.T) { // 17.3
	for i, x := range givens() {
		x = roomy(x)
		theirs := memory(reflect.ValueOf(x))
		if share(theirs) {
			t.Fatalf("%d: two parts of what is handed in share memory", i)
		}
		earlier, a := answers(x), answers(x)
		own, before := memory(reflect.ValueOf(a)), memory(reflect.ValueOf(earlier))
		if share(own) {
			t.Errorf("%d: two parts of answers share memory", i)
		} else if share(own, theirs) {
			t.Errorf("%d: an answer shares memory with what was handed in", i)
		} else if share(own, before) {
			t.Errorf("%d: an answer shares memory with an earlier one", i)
		}
		runtime.KeepAlive(a)
		runtime.KeepAlive(x)
		runtime.KeepAlive(earlier)
	}
}

func TestNothingIsChanged(t *testing.T) { // 17.3, P3
	for i, x := range givens() {
		x = roomy(x)
		before := behind(x)
		first := answers(x)
		if !reflect.DeepEqual(behind(x), before) {
			t.Errorf("%d: what was handed in was changed", i)
		}
		if !reflect.DeepEqual(answers(tidy(x).(given)), first) {
			t.Errorf("%d: what is answered hangs on more than the arguments", i)
		}
	}
}

func TestSideBySide(t *testing.T) { // 17.3, P3: as nothing is changed, many may ask at once
	for _, x := range givens() {
		want := answers(x)
		var g sync.WaitGroup
		for range 4 {
			g.Go(func() {
				if got := answers(x); !reflect.DeepEqual(got, want) {
					t.Errorf("%v; not %v", got, want)
				}
			})
		}
		g.Wait()
	}
}

// spoil makes some number, text or list of v another one.
func spoil(r *rand.Rand, v reflect.Value) {
	switch v.Kind() {
	case reflect.Bool:
		v.SetBool(!v.Bool())
	case reflect.Uint8:
		v.SetUint(uint64(r.IntN(256)))
	case reflect.Uint64:
		v.SetUint(pick(r, 0, 1, 3, 5, most, r.Uint64()))
	case reflect.Int, reflect.Int64:
		v.SetInt(pick(r, 0, 1, -1, 2, 3, 4, 8, 9, 1<<63-1, -1<<63, r.Int64()))
	case reflect.String:
		v.SetString(pick(r, "", "t", "x", "\xff", strings.Repeat("x", 65)))
	case reflect.Slice:
		n := v.Len()
		if n > 0 && r.IntN(4) > 0 {
			spoil(r, v.Index(r.IntN(n)))
			return
		}
		cut := reflect.MakeSlice(v.Type(), pick(r, 0, n/2, n+1, n+1, n+70), n+70)
		reflect.Copy(cut, v)
		v.Set(cut)
	case reflect.Struct:
		spoil(r, v.Field(r.IntN(v.NumField())))
	}
}

func TestAnything(t *testing.T) { // P1, P2, P3, P4
	before := runtime.NumGoroutine()
	r := rand.New(rand.NewPCG(17, 3))
	l := givens()
	rightOnes, wrongOnes := 0, 0
	for range 6000 {
		x := tidy(pick(r, l...)).(given)
		for range 1 + r.IntN(3) {
			spoil(r, reflect.ValueOf(&x).Elem())
		}
		a := answers(x)
		if !reflect.DeepEqual(answers(x), a) {
			t.Fatalf("%v: two answers", x)
		}
		if a.Why != api.OK && !alike(a.Begun, api.Load{}) {
			t.Fatalf("%v: Begin is %v, error %d", x, a.Begun, a.Why)
		}
		if a.Checked == api.OK {
			rightOnes++
			if publish.Check(x.Layout, a.Installed) != api.OK {
				t.Fatalf("%v: Installed is %v", x, a.Installed)
			}
			continue
		}
		wrongOnes++
		if a.Checked != api.ErrState || len(a.Wants) > 0 || a.State != api.LoadLost || !alike(a.Claim, api.Claim{}) || !alike(a.Installed, x.Load) {
			t.Fatalf("%v: %v", x, a)
		}
	}
	if rightOnes < 1000 || wrongOnes < 1000 {
		t.Errorf("%d loads are right, %d are not", rightOnes, wrongOnes)
	}
	if n := runtime.NumGoroutine(); n > before { // an earlier test's own may have ended meanwhile
		t.Errorf("%d goroutines, and %d before", n, before)
	}
}

func TestNilAndEmptyAreAlike(t *testing.T) { // P1
	var list func(v reflect.Value) reflect.Value
	list = func(v reflect.Value) reflect.Value {
		l := reflect.MakeSlice(v.Type(), v.Len(), v.Len())
		for i := range v.Len() {
			l.Index(i).Set(walk(v.Index(i), list))
		}
		return l
	}
	for i, x := range givens() {
		empty := walk(reflect.ValueOf(x), list).Interface().(given)
		if a, b := answers(tidy(x).(given)), answers(empty); !alike(a, b) {
			t.Errorf("%d: %v; not %v", i, a, b)
		}
	}
}
