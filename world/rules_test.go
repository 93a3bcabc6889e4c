package world_test

import (
	"math/rand/v2"
	"reflect"
	"runtime"
	"slices"
	"strings"
	"sync"
	"testing"
	"unsafe"

	"potsherd/api"
	"potsherd/world"
)

// span is a piece of memory.
type span struct{ from, to uintptr }

// memory is where v's lists, with the room behind them, and its texts lie.
func memory(v reflect.Value) (l []span) {
	switch v.Kind() {
	case reflect.String:
		if s := v.String(); s != "" {
			p := uintptr(unsafe.Pointer(unsafe.StringData(s)))
			l = append(l, span{p, p + uintptr(len(s))})
		}
	case reflect.Slice:
		if n := uintptr(v.Cap()) * v.Type().Elem().Size(); n > 0 {
			l = append(l, span{v.Pointer(), v.Pointer() + n})
		}
		for i := range v.Len() {
			l = append(l, memory(v.Index(i))...)
		}
	case reflect.Struct:
		for i := range v.NumField() {
			l = append(l, memory(v.Field(i))...)
		}
	}
	return l
}

// share tells whether two of these pieces lie over each other.
func share(l ...[]span) bool {
	all := slices.Concat(l...)
	slices.SortFunc(all, func(a, b span) int {
		if a.from < b.from {
			return -1
		}
		return 1
	})
	for i := range all {
		if i > 0 && all[i].from < all[i-1].to {
			return true
		}
	}
	return false
}

// given is what calls are handed.
type given struct {
	World api.World
	Query string
	Table api.Table
}

// walk makes a new v, of whose lists it is told what becomes; its texts are new ones.
func walk(v reflect.Value, list func(v reflect.Value) reflect.Value) reflect.Value {
	x := reflect.New(v.Type()).Elem()
	x.Set(v)
	switch v.Kind() {
	case reflect.String:
		x.SetString(strings.Clone(v.String()))
	case reflect.Slice:
		x.Set(list(v))
	case reflect.Struct:
		for i := range v.NumField() {
			x.Field(i).Set(walk(v.Field(i), list))
		}
	}
	return x
}

// mark makes v something that is not zero, if it is a number, a text, or has one.
func mark(v reflect.Value) {
	switch v.Kind() {
	case reflect.Bool:
		v.SetBool(true)
	case reflect.Uint8, reflect.Uint64:
		v.SetUint(77)
	case reflect.Int, reflect.Int64:
		v.SetInt(77)
	case reflect.String:
		v.SetString("behind")
	case reflect.Struct:
		for i := range v.NumField() {
			mark(v.Field(i))
		}
	}
}

// roomy is a new x whose lists, even those without parts, have room behind them, in which something stands.
func roomy(x given) given {
	var list func(v reflect.Value) reflect.Value
	list = func(v reflect.Value) reflect.Value {
		n := v.Len()
		l := reflect.MakeSlice(v.Type(), n+1, n+2)
		for i := range n {
			l.Index(i).Set(walk(v.Index(i), list))
		}
		mark(l.Index(n))
		return l.Slice(0, n)
	}
	return walk(reflect.ValueOf(x), list).Interface().(given)
}

// behind is x with what stands in the room behind its lists.
func behind(x given) given {
	var list func(v reflect.Value) reflect.Value
	list = func(v reflect.Value) reflect.Value {
		whole := v.Slice3(0, v.Cap(), v.Cap())
		l := reflect.MakeSlice(v.Type(), v.Cap(), v.Cap())
		for i := range v.Cap() {
			l.Index(i).Set(walk(whole.Index(i), list))
		}
		return l
	}
	return walk(reflect.ValueOf(x), list).Interface().(given)
}

// emptied is a new x whose lists without parts are empty, and not nil.
func emptied(x given) given {
	var list func(v reflect.Value) reflect.Value
	list = func(v reflect.Value) reflect.Value {
		l := reflect.MakeSlice(v.Type(), v.Len(), v.Len())
		for i := range v.Len() {
			l.Index(i).Set(walk(v.Index(i), list))
		}
		return l
	}
	return walk(reflect.ValueOf(x), list).Interface().(given)
}

func givens(t *testing.T) (l []given) {
	near, down, spent, last, wrong := busy(t), busy(t), busy(t), busy(t), busy(t)
	for len(near.Answers) < 4 { // the next packets bring answers
		near.deliver(0)
	}
	down.crash(0, 0)
	spent.Coord.Disk.Down, spent.Workers[0].Disk.Down = true, true
	last.Coord.Last = most
	wrong.Up = wrong.Up[:3]
	for _, g := range []*game{busy(t), near, down, spent, last, wrong, full(t, 4096), started(t, wide()), {t, api.World{}}} {
		l = append(l, given{g.World, shuffled, table("v", 20)}, given{g.World, "(from z)", api.Table{}})
	}
	return l
}

// answer is what a call answered.
type answer struct {
	World api.World
	N     uint64
	Why   api.Errno
}

func answers(x given) (l []answer) {
	w, why := world.New(x.World.Coord.Layout)
	l = append(l, answer{w, 0, why}, answer{Why: world.Check(x.World)})
	for call := range moves {
		for _, at := range []int{0, 1, 3, len(x.World.Net.Packets) - 1, -1} {
			w, n, why := move{call, at, 3, x.Query, x.Table}.first(x.World)
			if l = append(l, answer{w, n, why}); call < 3 {
				break
			}
		}
	}
	return l
}

func TestNewMemory(t *testing.T) { // 19.5
	for i, x := range givens(t) {
		x = roomy(x)
		theirs := memory(reflect.ValueOf(x))
		if share(theirs) {
			t.Fatalf("%d: two parts of what is handed in share memory", i)
		}
		earlier := answers(x)
		for k, a := range answers(x) {
			own := memory(reflect.ValueOf(a))
			if share(own) {
				t.Errorf("%d: two parts of answer %d share memory", i, k)
			} else if share(own, theirs) {
				t.Errorf("%d: answer %d shares memory with what was handed in", i, k)
			} else if share(own, memory(reflect.ValueOf(earlier[k]))) {
				t.Errorf("%d: answer %d shares memory with an earlier one", i, k)
			}
			runtime.KeepAlive(a)
		}
		runtime.KeepAlive(x)
		runtime.KeepAlive(earlier)
	}
}

func TestNothingIsChanged(t *testing.T) { // 19.5, P3
	for i, x := range givens(t) {
		x = roomy(x)
		before := behind(x)
		first := answers(x)
		if after := behind(x); !reflect.DeepEqual(after, before) {
			t.Errorf("%d: what was handed in was changed: %s", i, differ(after, before))
		}
		if again := answers(tidy(x).(given)); !reflect.DeepEqual(again, first) {
			t.Errorf("%d: what is answered hangs on more than the arguments: %s", i, differ(again, first))
		}
	}
}

func TestSideBySide(t *testing.T) { // 19.5, P3: as nothing is changed, many may ask at once
	for _, x := range givens(t) {
		want := answers(x)
		var g sync.WaitGroup
		for range 4 {
			g.Go(func() {
				if got := answers(x); !reflect.DeepEqual(got, want) {
					t.Error(differ(got, want))
				}
			})
		}
		g.Wait()
	}
}

func TestNilAndEmptyAreAlike(t *testing.T) { // P1
	for i, x := range givens(t) {
		if a, b := answers(tidy(x).(given)), answers(emptied(x)); !alike(a, b) {
			t.Errorf("%d: %s", i, differ(a, b))
		}
	}
}

// spoil makes some number, text or list of v another one.
func spoil(r *rand.Rand, v reflect.Value) {
	switch v.Kind() {
	case reflect.Bool:
		v.SetBool(!v.Bool())
	case reflect.Uint8:
		v.SetUint(uint64(r.IntN(256)))
	case reflect.Uint64:
		v.SetUint(pick(r, 0, 1, 2, 4, 7, 8, 20, 511, 512, 513, most, r.Uint64()))
	case reflect.Int, reflect.Int64:
		v.SetInt(pick(r, 0, 1, -1, 2, 3, 4, 5, 8, 9, 63, 64, 1<<63-1, -1<<63, r.Int64()))
	case reflect.String:
		v.SetString(pick(r, "", "t", "u", "x", "\xff", "pub", all))
	case reflect.Slice:
		n := v.Len()
		if n > 0 && r.IntN(4) > 0 {
			spoil(r, v.Index(r.IntN(n)))
			return
		}
		cut := reflect.MakeSlice(v.Type(), pick(r, 0, n/2, n+1, n+1, n+70), n+70)
		reflect.Copy(cut, v)
		v.Set(cut)
	case reflect.Struct:
		spoil(r, v.Field(r.IntN(v.NumField())))
	}
}

func TestAnything(t *testing.T) { // P1, P2, P3, P4, 19.1, 19.2, 19.3, 19.4, 19.6
	before := runtime.NumGoroutine()
	r := rand.New(rand.NewPCG(19, 2))
	var worlds []api.World
	for _, x := range givens(t) {
		if len(x.World.Net.Packets) < 100 {
			worlds = append(worlds, x.World)
		}
	}
	rightOnes, wrongOnes := 0, 0
	for range 800 {
		w := tidy(pick(r, worlds...)).(api.World)
		for range r.IntN(4) {
			spoil(r, reflect.ValueOf(&w).Elem())
		}
		isRight := world.Check(w) == api.OK
		if isRight != isSecondRight(w) {
			t.Fatalf("it is right: %v: %v", isRight, w)
		}
		for call := range moves {
			m := someMove(r, w)
			m.call = call
			got, n, why := m.hold(t, w)
			if !isRight && (why != api.ErrState || n != 0 || !alike(got, api.World{})) || isRight && world.Check(got) != api.OK {
				t.Fatalf("call %d: of %v became %v, error %d", call, w, got, why)
			}
			// A start that fails has opened the disk.
			if isRight && why != api.OK && (n != 0 || call != 7 && !alike(got, w)) {
				t.Fatalf("call %d: error %d: %s", call, why, differ(got, w))
			}
		}
		if isRight {
			rightOnes++
		} else {
			wrongOnes++
		}
	}
	if rightOnes < 200 || wrongOnes < 200 {
		t.Errorf("%d worlds are right, %d are not", rightOnes, wrongOnes)
	}
	if n := runtime.NumGoroutine(); n > before { // an earlier test's own may have ended meanwhile
		t.Errorf("%d goroutines, and %d before", n, before)
	}
}
