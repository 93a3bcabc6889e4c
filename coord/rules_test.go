package coord_test

import (
	"maps"
	"math/rand/v2"
	"reflect"
	"runtime"
	"slices"
	"strings"
	"sync"
	"testing"
	"unsafe"

	"potsherd/api"
	"potsherd/coord"
)

// span is a piece of memory.
type span struct{ from, to uintptr }

// memory is where v's lists, with the room behind them, and its texts lie.
func memory(v reflect.Value) (l []span) {
	switch v.Kind() {
	case reflect.String:
		if s := v.String(); s != "" {
			p := uintptr(unsafe.Pointer(unsafe.StringData(s)))
			l = append(l, span{p, p + uintptr(len(s))})
		}
	case reflect.Slice:
		if n := uintptr(v.Cap()) * v.Type().Elem().Size(); n > 0 {
			l = append(l, span{v.Pointer(), v.Pointer() + n})
		}
		for i := range v.Len() {
			l = append(l, memory(v.Index(i))...)
		}
	case reflect.Struct:
		for i := range v.NumField() {
			l = append(l, memory(v.Field(i))...)
		}
	}
	return l
}

// share tells whether two of these pieces lie over each other.
func share(l ...[]span) bool {
	all := slices.Concat(l...)
	slices.SortFunc(all, func(a, b span) int {
		if a.from < b.from {
			return -1
		}
		return 1
	})
	for i := range all {
		if i > 0 && all[i].from < all[i-1].to {
			return true
		}
	}
	return false
}

// given is what calls are handed.
type given struct {
	Coord api.Coord
	Query string
	Table api.Table
	Msg   api.Msg
}

// walk makes a new v, of whose lists it is told what becomes; its texts are new ones.
func walk(v reflect.Value, list func(v reflect.Value) reflect.Value) reflect.Value {
	x := reflect.New(v.Type()).Elem()
	x.Set(v)
	switch v.Kind() {
	case reflect.String:
		x.SetString(strings.Clone(v.String()))
	case reflect.Slice:
		x.Set(list(v))
	case reflect.Struct:
		for i := range v.NumField() {
			x.Field(i).Set(walk(v.Field(i), list))
		}
	}
	return x
}

// mark makes v something that is not zero, if it is a number, a text, or has one.
func mark(v reflect.Value) {
	switch v.Kind() {
	case reflect.Uint8, reflect.Uint64:
		v.SetUint(77)
	case reflect.Int, reflect.Int64:
		v.SetInt(77)
	case reflect.String:
		v.SetString("behind")
	case reflect.Struct:
		for i := range v.NumField() {
			mark(v.Field(i))
		}
	}
}

// roomy is a new x whose lists, even those without parts, have room behind them, in which something stands.
func roomy(x given) given {
	var list func(v reflect.Value) reflect.Value
	list = func(v reflect.Value) reflect.Value {
		n := v.Len()
		l := reflect.MakeSlice(v.Type(), n+1, n+2)
		for i := range n {
			l.Index(i).Set(walk(v.Index(i), list))
		}
		mark(l.Index(n))
		return l.Slice(0, n)
	}
	return walk(reflect.ValueOf(x), list).Interface().(given)
}

// behind is x with what stands in the room behind its lists.
func behind(x given) given {
	var list func(v reflect.Value) reflect.Value
	list = func(v reflect.Value) reflect.Value {
		whole := v.Slice3(0, v.Cap(), v.Cap())
		l := reflect.MakeSlice(v.Type(), v.Cap(), v.Cap())
		for i := range v.Cap() {
			l.Index(i).Set(walk(whole.Index(i), list))
		}
		return l
	}
	return walk(reflect.ValueOf(x), list).Interface().(given)
}

// emptied is a new x whose lists without parts are empty, and not nil.
func emptied(x given) given {
	var list func(v reflect.Value) reflect.Value
	list = func(v reflect.Value) reflect.Value {
		l := reflect.MakeSlice(v.Type(), v.Len(), v.Len())
		for i := range v.Len() {
			l.Index(i).Set(walk(v.Index(i), list))
		}
		return l
	}
	return walk(reflect.ValueOf(x), list).Interface().(given)
}

// nearly is one of whose runs one waits for one batch, and of whose loads one for an Installed.
func nearly() api.Coord {
	c := busy()
	for i, s := range c.Runs[0].Ins[1:] {
		c.Runs[0].Ins[i+1] = in(s.Stream, batches(s.Stream, ts(0, 20))...)
	}
	c.Runs = append(c.Runs, run(c, 34, joined, 4))
	c.Runs[3].Boots[0]++ // it is answered with the next tick
	c.Runs[2].Boots[0]++ // and this one begun
	c.Leases.Seen[1] = 13
	return c
}

func givens() (l []given) {
	c := nearly()
	s := c.Runs[0].Ins[0].Stream
	more := []api.Msg{batches(s, ts(0, 3))[0], batches(s, ts(0, 20))[1], batches(s, []api.Row{{whole(1)}})[0], told(c.Loads[0], 0), {}}
	for _, name := range slices.Sorted(maps.Keys(messages())) {
		more = append(more, messages()[name])
	}
	spent, down, wrong, full, last := nearly(), nearly(), nearly(), nearly(), nearly()
	spent.Disk.Fuse, down.Disk.Down, wrong.Boot, wrong.Leases.Seen = 1, true, 9, nil
	full.Loads, last.Last = append(full.Loads, loads(2)...), most
	few := nearly()
	few.Runs, few.Loads = few.Runs[1:3], few.Loads[:1]
	few.Leases.Seen[1] = 20
	for _, c := range []api.Coord{nearly(), few, spent, down, wrong, full, last} {
		for _, m := range more {
			l = append(l, given{c, shuffled, table("v", ts(0, 30)), m}, given{c, "(from z)", api.Table{}, m})
		}
	}
	return l
}

// answer is what a call answered.
type answer struct {
	Coord api.Coord
	N     uint64
	Posts []api.Post
	Why   api.Errno
}

func answers(x given) []answer {
	l := make([]answer, 8)
	l[0].Coord, l[0].Posts = coord.Receive(x.Coord, 1, x.Msg)
	l[1].Coord, l[1].Posts = coord.Receive(x.Coord, 0, x.Msg)
	l[2].Coord, l[2].Posts = coord.Tick(x.Coord)
	l[3].Coord, l[3].N, l[3].Posts = coord.Ask(x.Coord, x.Query)
	l[4].Coord, l[4].N, l[4].Posts = coord.Load(x.Coord, x.Table)
	l[5].Coord, l[5].Why = coord.Start(x.Coord.Layout, x.Coord.Disk)
	l[6].Coord, l[6].Why = coord.Start(api.Layout{}, x.Coord.Disk)
	l[7].Why = coord.Check(x.Coord)
	return l
}

func TestNewMemory(t *testing.T) { // 18.5
	for i, x := range givens() {
		x = roomy(x)
		theirs := memory(reflect.ValueOf(x))
		if share(theirs) {
			t.Fatalf("%d: two parts of what is handed in share memory", i)
		}
		earlier := answers(x)
		for k, a := range answers(x) {
			own := memory(reflect.ValueOf(a))
			if share(own) {
				t.Errorf("%d: two parts of answer %d share memory", i, k)
			} else if share(own, theirs) {
				t.Errorf("%d: answer %d shares memory with what was handed in", i, k)
			} else if share(own, memory(reflect.ValueOf(earlier[k]))) {
				t.Errorf("%d: answer %d shares memory with an earlier one", i, k)
			}
			runtime.KeepAlive(a)
		}
		runtime.KeepAlive(x)
		runtime.KeepAlive(earlier)
	}
}

func TestNothingIsChanged(t *testing.T) { // 18.5, P3
	for i, x := range givens() {
		x = roomy(x)
		before := behind(x)
		first := answers(x)
		if after := behind(x); !reflect.DeepEqual(after, before) {
			t.Errorf("%d: what was handed in was changed: %s", i, differ(after, before))
		}
		if again := answers(tidy(x).(given)); !reflect.DeepEqual(again, first) {
			t.Errorf("%d: what is answered hangs on more than the arguments: %s", i, differ(again, first))
		}
	}
}

func TestSideBySide(t *testing.T) { // 18.5, P3: as nothing is changed, many may ask at once
	for _, x := range givens()[:40] {
		want := answers(x)
		var g sync.WaitGroup
		for range 4 {
			g.Go(func() {
				if got := answers(x); !reflect.DeepEqual(got, want) {
					t.Error(differ(got, want))
				}
			})
		}
		g.Wait()
	}
}

func TestNilAndEmptyAreAlike(t *testing.T) { // P1
	for i, x := range givens() {
		if a, b := answers(tidy(x).(given)), answers(emptied(x)); !alike(a, b) {
			t.Errorf("%d: %s", i, differ(a, b))
		}
	}
	bare := given{Coord: api.Coord{Layout: wide(), Leases: api.Leases{Boots: make([]uint64, 4), Seen: make([]uint64, 4)}, Disk: api.Disk{Fuse: -1}}}
	if a, b := answers(bare), answers(emptied(bare)); !alike(a, b) || a[7].Why != api.OK {
		t.Error(differ(a, b))
	}
}

// spoil makes some number, text or list of v another one.
func spoil(r *rand.Rand, v reflect.Value) {
	switch v.Kind() {
	case reflect.Bool:
		v.SetBool(!v.Bool())
	case reflect.Uint8:
		v.SetUint(uint64(r.IntN(256)))
	case reflect.Uint64:
		v.SetUint(pick(r, 0, 1, 4, 7, 8, 20, 31, 511, 512, 513, most, r.Uint64()))
	case reflect.Int, reflect.Int64:
		v.SetInt(pick(r, 0, 1, -1, 2, 3, 4, 5, 8, 9, 63, 64, 1<<63-1, -1<<63, r.Int64()))
	case reflect.String:
		v.SetString(pick(r, "", "t", "u", "x", "\xff", "pub", all))
	case reflect.Slice:
		n := v.Len()
		if n > 0 && r.IntN(4) > 0 {
			spoil(r, v.Index(r.IntN(n)))
			return
		}
		cut := reflect.MakeSlice(v.Type(), pick(r, 0, n/2, n+1, n+1, n+70), n+70)
		reflect.Copy(cut, v)
		v.Set(cut)
	case reflect.Struct:
		spoil(r, v.Field(r.IntN(v.NumField())))
	}
}

func TestAnything(t *testing.T) { // P1, P2, P3, P4, 18.6
	before := runtime.NumGoroutine()
	r := rand.New(rand.NewPCG(18, 2))
	all := givens()
	rightOnes, wrongOnes, sent := 0, 0, 0
	for range 3000 {
		x := tidy(pick(r, all...)).(given)
		for range r.IntN(4) {
			spoil(r, reflect.ValueOf(&x).Elem().Field(pick(r, 0, 0, 0, 1, 2, 3)))
		}
		isRight := coord.Check(x.Coord) == api.OK
		l := answers(x)
		if again := answers(x); !reflect.DeepEqual(again, l) {
			t.Fatal("two answers:", differ(again, l))
		}
		for i, a := range l[:5] {
			if !isRight && !reflect.DeepEqual(a, answer{}) || isRight && coord.Check(a.Coord) != api.OK {
				t.Fatalf("%d: of %v became %v", i, x.Coord, a.Coord)
			}
			if x.Coord.Disk.Down && (len(a.Posts) > 0 || a.N != 0 || isRight && !alike(a.Coord, x.Coord)) {
				t.Fatalf("%d: %v is sent, %d the number", i, a.Posts, a.N)
			}
			if isOrder := i > 2; isOrder && isRight && x.Coord.Last == most && (len(a.Posts) > 0 || a.N != 0 || !alike(a.Coord, x.Coord)) {
				t.Fatalf("%d: no number is left: %v is sent, %d the number, %s", i, a.Posts, a.N, differ(a.Coord, x.Coord))
			}
			sent += len(a.Posts)
		}
		if a := l[5]; a.Why == api.OK && coord.Check(a.Coord) != api.OK || a.Why != api.OK && (a.Coord.Boot != 0 || len(a.Coord.Leases.Boots) > 0) {
			t.Fatalf("Start is %v, error %d", a.Coord, a.Why)
		}
		if isRight {
			rightOnes++
		} else {
			wrongOnes++
		}
	}
	if rightOnes < 800 || wrongOnes < 800 || sent < 800 {
		t.Errorf("%d coordinators are right, %d are not, and %d were sent", rightOnes, wrongOnes, sent)
	}
	if n := runtime.NumGoroutine(); n > before { // an earlier test's own may have ended meanwhile
		t.Errorf("%d goroutines, and %d before", n, before)
	}
}
