package worker_test

import (
	"maps"
	"math/rand/v2"
	"reflect"
	"runtime"
	"slices"
	"strings"
	"sync"
	"testing"
	"unsafe"

	"potsherd/api"
	"potsherd/worker"
)

// span is a piece of memory.
type span struct{ from, to uintptr }

// memory is where v's lists, with the room behind them, and its texts lie.
func memory(v reflect.Value) (l []span) {
	switch v.Kind() {
	case reflect.String:
		if s := v.String(); s != "" {
			p := uintptr(unsafe.Pointer(unsafe.StringData(s)))
			l = append(l, span{p, p + uintptr(len(s))})
		}
	case reflect.Slice:
		if n := uintptr(v.Cap()) * v.Type().Elem().Size(); n > 0 {
			l = append(l, span{v.Pointer(), v.Pointer() + n})
		}
		for i := range v.Len() {
			l = append(l, memory(v.Index(i))...)
		}
	case reflect.Struct:
		for i := range v.NumField() {
			l = append(l, memory(v.Field(i))...)
		}
	}
	return l
}

// share tells whether two of these pieces lie over each other.
func share(l ...[]span) bool {
	all := slices.Concat(l...)
	slices.SortFunc(all, func(a, b span) int {
		if a.from < b.from {
			return -1
		}
		return 1
	})
	for i := range all {
		if i > 0 && all[i].from < all[i-1].to {
			return true
		}
	}
	return false
}

// given is what calls are handed.
type given struct {
	Worker api.Worker
	Msg    api.Msg
}

// roomy is a new x whose lists have room behind them, in which something stands, and whose texts are its own.
func roomy(v reflect.Value) reflect.Value {
	x := reflect.New(v.Type()).Elem()
	x.Set(v)
	switch v.Kind() {
	case reflect.String:
		x.SetString(strings.Clone(v.String()))
	case reflect.Slice:
		n := v.Len()
		x.Set(reflect.MakeSlice(v.Type(), n+1, n+2))
		for i := range n {
			x.Index(i).Set(roomy(v.Index(i)))
		}
		mark(x.Index(n))
		x.SetLen(n)
	case reflect.Struct:
		for i := range v.NumField() {
			x.Field(i).Set(roomy(v.Field(i)))
		}
	}
	return x
}

// mark makes v something that is not zero, if it is a number, a text, or has one.
func mark(v reflect.Value) {
	switch v.Kind() {
	case reflect.Uint8, reflect.Uint64:
		v.SetUint(77)
	case reflect.Int, reflect.Int64:
		v.SetInt(77)
	case reflect.String:
		v.SetString("behind")
	case reflect.Struct:
		for i := range v.NumField() {
			mark(v.Field(i))
		}
	}
}

func roomyGiven(x given) given { return roomy(reflect.ValueOf(x)).Interface().(given) }

// behind is v with what stands in the room behind its lists.
func behind(v reflect.Value) any {
	var walk func(v reflect.Value) reflect.Value
	walk = func(v reflect.Value) reflect.Value {
		x := reflect.New(v.Type()).Elem()
		x.Set(v)
		switch v.Kind() {
		case reflect.Slice:
			whole := v.Slice3(0, v.Cap(), v.Cap())
			x.SetZero()
			for i := range whole.Len() {
				x.Set(reflect.Append(x, walk(whole.Index(i))))
			}
		case reflect.Struct:
			for i := range v.NumField() {
				x.Field(i).Set(walk(v.Field(i)))
			}
		}
		return x
	}
	return walk(v).Interface()
}

// busy is a worker to which each kind of message, and a tick, do something.
func busy() api.Worker {
	w := idle()
	runs := task(ask(joined, join(sent(0, 4), sent(1))), 18, []api.In{
		received(link(0, 6), batches(link(0, 6), ts(0, 20))...), received(link(4, 6), batches(link(4, 6), ts(20, 30))...), received(link(1, 6), batches(link(1, 6), us(0, 20))[:2]...)})
	runs.Frag.Id = 6
	old := task(inAttempt(attempt-1, ask(all, scan())), 13, nil)
	w.Tasks = append(w.Tasks, runs, old, task(ofQuery(theirs(), ask(joined, spread(2, 4))), 19, nil))
	w.Over = ids(16)
	w.Over.Ids = slices.DeleteFunc(w.Over.Ids, func(q api.Qid) bool { return q == mine() || q == theirs() })
	return w
}

func givens() (l []given) {
	spent, full := busy(), busy()
	spent.Disk.Fuse = 1
	full.Tasks = append(full.Tasks, tasks(128-len(full.Tasks))...)
	for i := range full.Tasks[5:] {
		full.Tasks[5+i].Query.N = uint64(100 + i)
	}
	down := busy()
	down.Disk.Down = true
	wrong := busy()
	wrong.Id = 0
	more := []api.Msg{
		batches(link(1, 6), us(0, 20))[2], batches(link(1, 6), us(0, 20))[1], ack(link(3, -1), 2), ack(link(3, -1), 0), ask(joined, join(shard("t", 0), shard("u", 0))),
		inAttempt(attempt+1, ask(joined, spread(2, 4))), ask(joined, api.Frag{Id: 9, Node: me, Left: sent(0), Right: sent(1, 0)}), install(kept()[0]), clean(theirs()), {},
	}
	for _, name := range slices.Sorted(maps.Keys(messages())) {
		more = append(more, messages()[name])
	}
	for _, w := range []api.Worker{busy(), spent, full, down, wrong} {
		for _, m := range more {
			l = append(l, given{w, m})
		}
	}
	return l
}

// answer is what a call answered.
type answer struct {
	Worker api.Worker
	Posts  []api.Post
	Why    api.Errno
}

func answers(x given) []answer {
	l := make([]answer, 6)
	l[0].Worker, l[0].Posts = worker.Receive(x.Worker, 0, x.Msg)
	l[1].Worker, l[1].Posts = worker.Receive(x.Worker, 1, x.Msg)
	l[2].Worker, l[2].Posts = worker.Tick(x.Worker)
	l[3].Worker, l[3].Why = worker.Start(me, x.Worker.Disk)
	l[4].Worker, l[4].Why = worker.Start(0, x.Worker.Disk)
	l[5].Why = worker.Check(x.Worker)
	return l
}

func TestNewMemory(t *testing.T) { // 16.4
	for i, x := range givens() {
		x = roomyGiven(x)
		theirs := memory(reflect.ValueOf(x))
		if share(theirs) {
			t.Fatalf("%d: two parts of what is handed in share memory", i)
		}
		earlier := answers(x)
		for k, a := range answers(x) {
			own := memory(reflect.ValueOf(a))
			if share(own) {
				t.Errorf("%d: two parts of answer %d share memory", i, k)
			} else if share(own, theirs) {
				t.Errorf("%d: answer %d shares memory with what was handed in", i, k)
			} else if share(own, memory(reflect.ValueOf(earlier[k]))) {
				t.Errorf("%d: answer %d shares memory with an earlier one", i, k)
			}
			runtime.KeepAlive(a)
		}
		runtime.KeepAlive(x)
		runtime.KeepAlive(earlier)
	}
}

func TestNothingIsChanged(t *testing.T) { // 16.4, P3
	for i, x := range givens() {
		x = roomyGiven(x)
		before := behind(reflect.ValueOf(x))
		first := answers(x)
		if after := behind(reflect.ValueOf(x)); !reflect.DeepEqual(after, before) {
			t.Errorf("%d: what was handed in was changed: %s", i, differ(after, before))
		}
		if again := answers(tidy(x).(given)); !reflect.DeepEqual(again, first) {
			t.Errorf("%d: what is answered hangs on more than the arguments: %s", i, differ(again, first))
		}
	}
}

func TestSideBySide(t *testing.T) { // 16.4, P3: as nothing is changed, many may ask at once
	for _, x := range givens()[:25] {
		want := answers(x)
		var g sync.WaitGroup
		for range 4 {
			g.Go(func() {
				if got := answers(x); !reflect.DeepEqual(got, want) {
					t.Error(differ(got, want))
				}
			})
		}
		g.Wait()
	}
}

// spoil makes some number, text or list of v another one.
func spoil(r *rand.Rand, v reflect.Value) {
	switch v.Kind() {
	case reflect.Bool:
		v.SetBool(!v.Bool())
	case reflect.Uint8:
		v.SetUint(uint64(r.IntN(256)))
	case reflect.Uint64:
		v.SetUint(pick(r, 0, 1, 4, 7, 8, 20, 511, 512, 513, most, r.Uint64()))
	case reflect.Int, reflect.Int64:
		v.SetInt(pick(r, 0, 1, -1, 2, 5, 7, 8, 63, 64, 1<<63-1, -1<<63, r.Int64()))
	case reflect.String:
		v.SetString(pick(r, "", "t", "u", "x", "\xff", "tmp"))
	case reflect.Slice:
		n := v.Len()
		if n > 0 && r.IntN(4) > 0 {
			spoil(r, v.Index(r.IntN(n)))
			return
		}
		cut := reflect.MakeSlice(v.Type(), pick(r, 0, n/2, n+1, n+1, n+70), n+70)
		reflect.Copy(cut, v)
		v.Set(cut)
	case reflect.Struct:
		spoil(r, v.Field(r.IntN(v.NumField())))
	}
}

func TestAnything(t *testing.T) { // P1, P2, P3, P4, 16.5
	before := runtime.NumGoroutine()
	r := rand.New(rand.NewPCG(16, 2))
	all := givens()
	rightOnes, changes := 0, 0
	for range 2500 {
		x := tidy(pick(r, all...)).(given)
		for range r.IntN(4) {
			spoil(r, reflect.ValueOf(&x).Elem().Field(r.IntN(2)))
		}
		isRight := worker.Check(x.Worker) == api.OK
		from := pick(r, 0, 0, 0, 1, -1, 1<<40)
		got, posts := worker.Receive(x.Worker, from, x.Msg)
		again, posts1 := worker.Receive(x.Worker, from, x.Msg)
		ticked, posts2 := worker.Tick(x.Worker)
		if !reflect.DeepEqual(got, again) || !reflect.DeepEqual(posts, posts1) {
			t.Fatalf("Receive is %s; sent: %s", differ(got, again), differ(posts, posts1))
		}
		for _, w := range []api.Worker{got, ticked} {
			if !isRight && !reflect.DeepEqual(w, api.Worker{}) || isRight && worker.Check(w) != api.OK {
				t.Fatalf("of %v became %v", x.Worker, w)
			}
		}
		if n := len(posts) + len(posts1) + len(posts2); n > 0 && (!isRight || x.Worker.Disk.Down) {
			t.Fatalf("%v is sent", posts)
		}
		worker.Start(x.Worker.Id, x.Worker.Disk)
		if isRight {
			rightOnes++
		}
		if len(posts) > 0 {
			changes++
		}
	}
	if rightOnes < 500 || rightOnes > 2200 || changes < 200 {
		t.Errorf("%d workers are right, and %d sent something", rightOnes, changes)
	}
	if n := runtime.NumGoroutine(); n > before { // an earlier test's own may have ended meanwhile
		t.Errorf("%d goroutines, and %d before", n, before)
	}
}

// emptied is a new x whose lists without parts are empty, and not nil.
func emptied(x given) given {
	var walk func(v reflect.Value) reflect.Value
	walk = func(v reflect.Value) reflect.Value {
		out := reflect.New(v.Type()).Elem()
		out.Set(v)
		switch v.Kind() {
		case reflect.Slice:
			out.Set(reflect.MakeSlice(v.Type(), 0, v.Len()))
			for i := range v.Len() {
				out.Set(reflect.Append(out, walk(v.Index(i))))
			}
		case reflect.Struct:
			for i := range v.NumField() {
				out.Field(i).Set(walk(v.Field(i)))
			}
		}
		return out
	}
	return walk(reflect.ValueOf(x)).Interface().(given)
}

func TestNilAndEmptyAreAlike(t *testing.T) { // P1
	for i, x := range givens() {
		if a, b := answers(tidy(x).(given)), answers(emptied(x)); !alike(a, b) {
			t.Errorf("%d: %s", i, differ(a, b))
		}
	}
	for _, l := range [][]api.Task{nil, {}} {
		w := api.Worker{Id: 1, Tasks: l, Over: api.WindowOf{Ids: []api.Qid{}}, Disk: api.Disk{Files: []api.DiskFile{}, Fuse: -1}}
		if got, posts := worker.Tick(w); worker.Check(w) != api.OK || !alike(got, api.Worker{Id: 1, Now: 1, Disk: api.Disk{Fuse: -1}}) || len(posts) != 1 {
			t.Errorf("with nothing: %v, %v", got, posts)
		}
	}
}
