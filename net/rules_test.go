package net_test

import (
	"math"
	"math/rand/v2"
	"reflect"
	"runtime"
	"slices"
	"strconv"
	"sync"
	"testing"
	"unsafe"

	"potsherd/api"
	"potsherd/net"
)

func pick[T any](r *rand.Rand, l ...T) T { return l[r.IntN(len(l))] }

// log is the network once more: all that was sent ever, by number, and which numbers are under way, in their order.
type log struct {
	sent []api.Packet
	way  []int
}

func (l *log) send(p api.Packet) api.Errno {
	if p.From < 0 || p.From > 7 || p.To < 0 || p.To > 7 {
		return api.ErrRange
	}
	if len(p.Text) > 65536 {
		return api.ErrLong
	}
	if len(l.way) == 4096 {
		return api.ErrFull
	}
	l.sent = append(l.sent, p)
	l.way = append(l.way, len(l.sent)-1)
	return api.OK
}

func (l *log) has(i int) bool { return i >= 0 && i < len(l.way) }

func (l *log) take(i int) (p api.Packet, why api.Errno) {
	if !l.has(i) {
		return p, api.ErrUnknown
	}
	p = l.sent[l.way[i]]
	var left []int
	for k, n := range l.way {
		if k != i {
			left = append(left, n)
		}
	}
	l.way = left
	return p, api.OK
}

func (l *log) copied(i int) api.Errno {
	if !l.has(i) {
		return api.ErrUnknown
	}
	if len(l.way) == 4096 {
		return api.ErrFull
	}
	l.way = append(l.way, l.way[i])
	return api.OK
}

func (l *log) net() (n api.Net) {
	for _, i := range l.way {
		n.Packets = append(n.Packets, l.sent[i])
	}
	return n
}

// step does something with both, and tells how that ended.
func (l *log) step(t *testing.T, r *rand.Rand, n api.Net) (api.Net, api.Errno) {
	i := r.IntN(len(n.Packets)+2) - 1
	switch r.IntN(5) {
	case 0, 1:
		p := packet(r.IntN(8), r.IntN(8), "text "+strconv.Itoa(len(l.sent)))
		switch r.IntN(20) {
		case 0:
			p.From = pick(r, -1, 8)
		case 1:
			p.To = pick(r, -1, 8)
		case 2:
			p.Text = long(65537)
		}
		next, why := net.Send(n, p.From, p.To, p.Text)
		if want := l.send(p); why != want {
			t.Fatalf("Send(%v, %v): error %d; not %d", n, p, why, want)
		}
		return next, why
	case 2:
		next, p, why := net.Deliver(n, i)
		if q, want := l.take(i); why != want || p != q {
			t.Fatalf("Deliver(%v, %d) is %v, error %d; not %v, error %d", n, i, p, why, q, want)
		}
		if why == api.OK && !slices.Contains(l.sent, p) {
			t.Fatalf("%v was not sent", p)
		}
		return next, why
	case 3:
		next, why := net.Drop(n, i)
		if _, want := l.take(i); why != want {
			t.Fatalf("Drop(%v, %d): error %d; not %d", n, i, why, want)
		}
		return next, why
	}
	next, why := net.Copy(n, i)
	if want := l.copied(i); why != want {
		t.Fatalf("Copy(%v, %d): error %d; not %d", n, i, why, want)
	}
	return next, why
}

func TestOnlyWhatWasSent(t *testing.T) { // 14.1, 14.3
	r := rand.New(rand.NewPCG(14, 1))
	seen := make(map[api.Errno]int)
	for range 300 {
		var n api.Net
		l := &log{}
		if r.IntN(4) == 0 { // near its end
			n = many(4090 + r.IntN(7))
			for _, p := range n.Packets {
				l.send(p)
			}
		}
		for range 60 {
			next, why := l.step(t, r, n)
			if !alike(next, l.net()) || net.Check(next) != api.OK {
				t.Fatalf("%v became %v", n, next)
			}
			seen[why]++
			n = next
		}
	}
	for _, why := range []api.Errno{api.OK, api.ErrRange, api.ErrLong, api.ErrFull, api.ErrUnknown} {
		if seen[why] < 100 {
			t.Errorf("error %d was seen %d times", why, seen[why])
		}
	}
}

// span is a piece of memory.
type span struct{ from, to uintptr }

func (a span) meets(b span) bool { return a.from < b.to && b.from < a.to }

// memory is where v's lists, with the room behind them, and its texts lie.
func memory(v reflect.Value) (l []span) {
	switch v.Kind() {
	case reflect.String:
		if s := v.String(); s != "" {
			p := uintptr(unsafe.Pointer(unsafe.StringData(s)))
			l = append(l, span{p, p + uintptr(len(s))})
		}
	case reflect.Slice:
		if n := uintptr(v.Cap()) * v.Type().Elem().Size(); n > 0 {
			l = append(l, span{v.Pointer(), v.Pointer() + n})
		}
		for i := range v.Len() {
			l = append(l, memory(v.Index(i))...)
		}
	case reflect.Struct:
		for i := range v.NumField() {
			l = append(l, memory(v.Field(i))...)
		}
	}
	return l
}

func meet(a, b []span) bool {
	return slices.ContainsFunc(a, func(x span) bool { return slices.ContainsFunc(b, x.meets) })
}

// answer is what a call answered.
type answer struct {
	Net    api.Net
	Packet api.Packet
	Why    api.Errno
}

// answers are what all calls make of n, a place and a text.
func answers(n api.Net, i int, text string) []answer {
	l := make([]answer, 6)
	l[0].Why = net.Check(n)
	l[1].Net, l[1].Why = net.Send(n, 1, 2, text)
	l[2].Net, l[2].Why = net.Send(n, 1, 8, text)
	l[3].Net, l[3].Packet, l[3].Why = net.Deliver(n, i)
	l[4].Net, l[4].Why = net.Drop(n, i)
	l[5].Net, l[5].Why = net.Copy(n, i)
	return l
}

// roomy is n with room behind its packets, in which two of them stand.
func roomy(n api.Net) api.Net {
	room := append(slices.Clone(n.Packets), packet(4, 4, "behind"), packet(5, 5, "far behind"))
	return of(room[:len(n.Packets)]...)
}

func givens() []api.Net {
	return []api.Net{{}, few(), of(packet(1, 2, "one text"), packet(3, 4, "one text"), packet(1, 2, "one text")), many(20), of(packet(1, 8, "wrong"), packet(1, 2, "x"))}
}

func TestNewMemory(t *testing.T) { // 14.2
	for k, x := range givens() {
		for i := -1; i <= len(x.Packets); i++ {
			n, text := roomy(x), "a text"
			theirs := append(memory(reflect.ValueOf(n)), memory(reflect.ValueOf(text))...)
			earlier := answers(n, i, text)
			for j, a := range answers(n, i, text) {
				own := memory(reflect.ValueOf(a))
				if meet(own, theirs) {
					t.Errorf("%d, %d: answer %d shares memory with what was handed in", k, i, j)
				}
				if meet(own, memory(reflect.ValueOf(earlier[j]))) {
					t.Errorf("%d, %d: answer %d shares memory with an earlier one", k, i, j)
				}
				for m, s := range own {
					if meet([]span{s}, own[m+1:]) {
						t.Errorf("%d, %d: two parts of answer %d share memory", k, i, j)
					}
				}
			}
			runtime.KeepAlive(n)
			runtime.KeepAlive(text)
			runtime.KeepAlive(earlier)
		}
	}
}

func TestNothingIsChanged(t *testing.T) { // 14.2, P3
	for k, x := range givens() {
		for i := -1; i <= len(x.Packets); i++ {
			n := roomy(x)
			all := n.Packets[:len(n.Packets)+2]
			before := slices.Clone(all)
			first := answers(n, i, "x")
			if !slices.Equal(all, before) {
				t.Errorf("%d, %d: what was handed in was changed: %v; before %v", k, i, all, before)
			}
			n.Packets = slices.Clip(n.Packets)
			if !reflect.DeepEqual(answers(n, i, "x"), first) {
				t.Errorf("%d, %d: what is answered hangs on more than the arguments", k, i)
			}
		}
	}
}

func TestSideBySide(t *testing.T) { // 14.2, P3: as nothing is changed, many may ask at once
	n := roomy(many(20))
	want := answers(n, 7, "x")
	var g sync.WaitGroup
	for range 8 {
		g.Go(func() {
			for range 20 {
				if got := answers(n, 7, "x"); !reflect.DeepEqual(got, want) {
					t.Errorf("%v; not %v", got, want)
				}
			}
		})
	}
	g.Wait()
}

func TestAnything(t *testing.T) { // P1, P2, P3, P4
	before := runtime.NumGoroutine()
	r := rand.New(rand.NewPCG(14, 2))
	rightOnes := 0
	for range 5000 {
		var n api.Net
		for range r.IntN(5) {
			n.Packets = append(n.Packets, packet(pick(r, 0, 1, 2, 3, 4, 5, 6, 7, 8, -1, math.MaxInt), pick(r, 0, 1, 2, 3, 4, 5, 6, 7, 8, math.MinInt), pick(r, "", "x", "\xff", long(65536), long(65537))))
		}
		i := pick(r, -1, 0, 1, 2, 3, 4, 5, math.MinInt, math.MaxInt)
		first, again := answers(n, i, "x"), answers(n, i, "x")
		if !reflect.DeepEqual(first, again) {
			t.Fatalf("of %d packets, %d: %v; and %v", len(n.Packets), i, first, again)
		}
		wrong := net.Check(n) != api.OK
		for k, a := range first[1:] {
			if wrong != (a.Why == api.ErrState) || wrong && !isZero(a.Net) || !wrong && a.Why != api.OK && !alike(a.Net, n) || a.Why != api.OK && a.Packet != (api.Packet{}) {
				t.Fatalf("of %v, %d: answer %d is %v", n, i, k+1, a)
			}
		}
		if !wrong {
			rightOnes++
		}
	}
	if rightOnes < 1000 || rightOnes > 4500 {
		t.Errorf("%d nets are right", rightOnes)
	}
	if n := runtime.NumGoroutine(); n > before { // an earlier test's own may have ended meanwhile
		t.Errorf("%d goroutines, and %d before", n, before)
	}
}

func TestNilAndEmptyAreAlike(t *testing.T) { // P1
	for _, l := range [][]api.Packet{nil, {}} {
		n := api.Net{Packets: l}
		if why := net.Check(n); why != api.OK {
			t.Error("nothing under way: error", why)
		}
		sends(t, "nothing under way", n, 1, 2, "x")
		refusesToSend(t, "nothing under way", n, 1, 8, "x", api.ErrRange)
		for k, a := range answers(n, 0, "x")[3:] {
			if a.Why != api.ErrUnknown || !isZero(a.Net) || a.Packet != (api.Packet{}) {
				t.Errorf("nothing under way: answer %d is %v", k, a)
			}
		}
	}
}
