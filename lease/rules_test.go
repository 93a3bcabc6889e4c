package lease_test

import (
	"math/rand/v2"
	"reflect"
	"runtime"
	"slices"
	"sync"
	"testing"
	"unsafe"

	"potsherd/api"
	"potsherd/lease"
)

func pick[T any](r *rand.Rand, l ...T) T { return l[r.IntN(len(l))] }

// beat is what a node told.
type beat struct {
	node      int
	boot, now uint64
}

// log is the leases once more: all that was believed, from the first beat on; what is known of a node is what it told last.
type log struct {
	nodes int
	beats []beat
}

func (l *log) last(node int) (b beat) {
	for _, x := range l.beats {
		if x.node == node {
			b = x
		}
	}
	return b
}

func (l *log) beat(b beat) (bool, api.Errno) {
	if b.node < 1 || b.node > l.nodes-1 || b.boot == 0 {
		return false, api.ErrRange
	}
	last := l.last(b.node)
	if last.boot > b.boot || last.boot == b.boot && last.now > b.now {
		return false, api.ErrStale
	}
	l.beats = append(l.beats, b)
	return last.boot != b.boot, api.OK
}

func (l *log) leases() (all api.Leases) {
	for node := range l.nodes {
		b := l.last(node)
		all.Boots = append(all.Boots, b.boot)
		all.Seen = append(all.Seen, b.now)
	}
	return all
}

func (l *log) alive(now uint64) (all []bool) {
	for node := range l.nodes {
		isAlive := node == 0
		for ticks := range uint64(8) { // the ticks at which one that is alive now may have beaten
			b := l.last(node)
			isAlive = isAlive || b.boot > 0 && ticks <= now && b.now == now-ticks
		}
		all = append(all, isAlive)
	}
	return all
}

func TestBelievedAsTold(t *testing.T) { // 15.1, 15.3, 15.4
	r := rand.New(rand.NewPCG(15, 1))
	seen := make(map[api.Errno]int)
	alive, dead := 0, 0
	for range 500 {
		known := &log{nodes: 2 + r.IntN(7)}
		l, _ := lease.New(known.nodes)
		begin := pick(r, 0, 0, 1<<50, most-60)
		for tick := range uint64(60) {
			now := begin + tick
			b := beat{r.IntN(known.nodes+2) - 1, uint64(r.IntN(5)), now - min(now, uint64(r.IntN(3)*r.IntN(12)))}
			next, isNew, why := lease.Beat(l, b.node, b.boot, b.now)
			wantNew, want := known.beat(b)
			if why != want || isNew != wantNew || !alike(next, known.leases()) || lease.Check(next) != api.OK {
				t.Fatalf("Beat(%v, %v) is %v, %t, error %d; not %v, %t, error %d", l, b, next, isNew, why, known.leases(), wantNew, want)
			}
			for node := range known.nodes {
				if next.Boots[node] < l.Boots[node] {
					t.Fatalf("a boot fell: %v became %v", l, next)
				}
			}
			seen[why]++
			l = next
			got, why := lease.Alive(l, now)
			if why != api.OK || !slices.Equal(got, known.alive(now)) {
				t.Fatalf("Alive(%v, %d) is %v, error %d; not %v", l, now, got, why, known.alive(now))
			}
			for _, is := range got[1:] {
				if is {
					alive++
				} else {
					dead++
				}
			}
		}
	}
	for _, why := range []api.Errno{api.OK, api.ErrRange, api.ErrStale} {
		if seen[why] < 2000 {
			t.Errorf("error %d was seen %d times", why, seen[why])
		}
	}
	if alive < 2000 || dead < 2000 {
		t.Errorf("%d were alive, %d were not", alive, dead)
	}
}

func TestAWhile(t *testing.T) { // 15.3
	l, _ := lease.New(3)
	for now := range uint64(100) {
		if now%20 == 0 || now == 45 { // who beats again stays
			l, _, _ = lease.Beat(l, 1, 1+now/50, now)
		}
		since := now % 20
		if now >= 45 && now < 60 {
			since = now - 45
		}
		if alive, _ := lease.Alive(l, now); alive[1] != (since < 8) || alive[2] {
			t.Errorf("%d ticks behind a beat, at %d: %v", since, now, alive)
		}
	}
}

// span is a piece of memory.
type span struct{ from, to uintptr }

func (a span) meets(b span) bool { return a.from < b.to && b.from < a.to }

// memory is where a list lies, with the room behind it.
func memory[T any](l []T) span {
	p := uintptr(unsafe.Pointer(unsafe.SliceData(l)))
	return span{p, p + uintptr(cap(l))*reflect.TypeFor[T]().Size()}
}

func meet(a, b []span) bool {
	return slices.ContainsFunc(a, func(x span) bool { return slices.ContainsFunc(b, x.meets) })
}

func listsOf(l api.Leases) []span { return []span{memory(l.Boots), memory(l.Seen)} }

// answers are what all calls make of leases, and where it lies.
func answers(l api.Leases) ([]any, []span) {
	made, why := lease.New(4)
	told, isNew, why1 := lease.Beat(l, 2, 5, 12)
	stale, isNew1, why2 := lease.Beat(l, 2, 1, 12)
	none, isNew2, why3 := lease.Beat(l, 0, 1, 12)
	alive, why4 := lease.Alive(l, 12)
	all := []any{made, why, told, isNew, why1, stale, isNew1, why2, none, isNew2, why3, alive, why4, lease.Check(l)}
	return all, slices.Concat(listsOf(made), listsOf(told), listsOf(stale), listsOf(none), []span{memory(alive)})
}

// roomy are leases with room behind their lists, in which something stands.
func roomy(l api.Leases) api.Leases {
	n := len(l.Boots)
	return leases(append(slices.Clone(l.Boots), 77, 78)[:n], append(slices.Clone(l.Seen), 87, 88)[:len(l.Seen)])
}

func TestNewMemory(t *testing.T) { // 15.2
	for name, x := range right() {
		l := roomy(x)
		earlier, theirs := answers(l)
		now, own := answers(l)
		if meet(own, listsOf(l)) || meet(own, theirs) {
			t.Errorf("%s: an answer shares memory with what was handed in, or with an earlier one", name)
		}
		for i, s := range own {
			if meet([]span{s}, own[i+1:]) {
				t.Errorf("%s: two lists share memory", name)
			}
		}
		runtime.KeepAlive(earlier)
		runtime.KeepAlive(now)
		runtime.KeepAlive(l)
	}
}

func TestNothingIsChanged(t *testing.T) { // 15.2, P3
	all := right()
	for name, l := range wrong() {
		all["not right: "+name] = l
	}
	for name, x := range all {
		l := roomy(x)
		first, _ := answers(l)
		boots, seen := l.Boots[:len(l.Boots)+2], l.Seen[:len(l.Seen)+2]
		if !alike(l, x) || boots[len(boots)-1] != 78 || boots[len(boots)-2] != 77 || seen[len(seen)-1] != 88 || seen[len(seen)-2] != 87 {
			t.Errorf("%s: what was handed in was changed: %v", name, l)
		}
		again, _ := answers(leases(slices.Clip(l.Boots), slices.Clip(l.Seen)))
		if !reflect.DeepEqual(again, first) {
			t.Errorf("%s: what is answered hangs on more than the arguments", name)
		}
	}
}

func TestSideBySide(t *testing.T) { // 15.2, P3: as nothing is changed, many may ask at once
	l := roomy(some())
	want, _ := answers(l)
	var g sync.WaitGroup
	for range 8 {
		g.Go(func() {
			for range 20 {
				if got, _ := answers(l); !reflect.DeepEqual(got, want) {
					t.Errorf("%v; not %v", got, want)
				}
			}
		})
	}
	g.Wait()
}

func TestAnything(t *testing.T) { // P1, P2, P3, P4
	before := runtime.NumGoroutine()
	r := rand.New(rand.NewPCG(15, 2))
	number := func() uint64 { return pick(r, 0, 1, 2, 7, 8, 9, most, most-7, most-8, r.Uint64()) }
	rightOnes := 0
	for range 8000 {
		l := leases(zeros(r.IntN(11)), nil)
		l.Seen = zeros(max(0, len(l.Boots)+pick(r, 0, 0, 0, 1, -1)))
		for i := range l.Boots {
			l.Boots[i] = number()
		}
		for i := range l.Seen {
			l.Seen[i] = number()
		}
		node, boot, now := r.IntN(13)-2, number(), number()
		wrong := lease.Check(l) != api.OK
		told, isNew, why := lease.Beat(l, node, boot, now)
		again, isNew1, why1 := lease.Beat(l, node, boot, now)
		if !alike(told, again) || isNew != isNew1 || why != why1 || wrong != (why == api.ErrState) || wrong && !isZero(told) || why != api.OK && (isNew || !wrong && !alike(told, l)) {
			t.Fatalf("Beat(%v, %d, %d, %d) is %v, %t, error %d", l, node, boot, now, told, isNew, why)
		}
		alive, why := lease.Alive(l, now)
		if why != lease.Check(l) || wrong != (len(alive) == 0) || !wrong && (len(alive) != len(l.Boots) || !alive[0]) {
			t.Fatalf("Alive(%v, %d) is %v, error %d", l, now, alive, why)
		}
		if !wrong {
			rightOnes++
		}
	}
	if rightOnes < 1000 || rightOnes > 7000 {
		t.Errorf("%d leases are right", rightOnes)
	}
	if n := runtime.NumGoroutine(); n > before { // an earlier test's own may have ended meanwhile
		t.Errorf("%d goroutines, and %d before", n, before)
	}
}

func TestNilAndEmptyAreAlike(t *testing.T) { // P1
	for _, a := range [][]uint64{nil, {}} {
		for _, b := range [][]uint64{nil, {}} {
			l := leases(a, b)
			told, isNew, why := lease.Beat(l, 1, 1, 1)
			alive, why1 := lease.Alive(l, 1)
			if lease.Check(l) != api.ErrState || why != api.ErrState || why1 != api.ErrState || isNew || !isZero(told) || len(alive) > 0 {
				t.Errorf("no nodes: Beat is %v, %t, error %d, Alive %v, error %d", told, isNew, why, alive, why1)
			}
		}
	}
}
