package rpc_test

import (
	"math"
	"math/rand/v2"
	"reflect"
	"runtime"
	"slices"
	"strings"
	"sync"
	"testing"
	"unsafe"

	"potsherd/api"
	"potsherd/rpc"
	"potsherd/wire"
)

// tidy is a new b whose empty lists are nil.
func tidy(b api.Outbox) api.Outbox {
	var walk func(v reflect.Value) reflect.Value
	walk = func(v reflect.Value) reflect.Value {
		out := reflect.New(v.Type()).Elem()
		out.Set(v)
		switch v.Kind() {
		case reflect.Slice:
			out.SetZero()
			for i := range v.Len() {
				out.Set(reflect.Append(out, walk(v.Index(i))))
			}
		case reflect.Struct:
			for i := range v.NumField() {
				out.Field(i).Set(walk(v.Field(i)))
			}
		}
		return out
	}
	return walk(reflect.ValueOf(b)).Interface().(api.Outbox)
}

func pick[T any](r *rand.Rand, l ...T) T { return l[r.IntN(len(l))] }

// The chapter's words once more: what is asked has a key that tells just what it is of, and an answer tells which keys it fits.

type key struct {
	to      int
	kind    api.MsgKind
	query   api.Qid
	attempt int
	frag    int
	table   string
	version api.Version
	shard   int
}

func keyOf(to int, m api.Msg) key {
	switch m.Kind {
	case api.MsgStart:
		return key{to: to, kind: m.Kind, query: m.Stream.Query, attempt: m.Stream.Attempt, frag: m.Frag.Id}
	case api.MsgStarted:
		return key{to: to, kind: api.MsgStart, query: m.Stream.Query, attempt: m.Stream.Attempt, frag: m.Stream.From}
	case api.MsgInstall, api.MsgInstalled:
		return key{to: to, kind: api.MsgInstall, table: m.File.Table, version: m.File.Version, shard: m.File.Shard}
	}
	return key{}
}

func isAnswer(m api.Msg) bool { return m.Kind == api.MsgStarted || m.Kind == api.MsgInstalled }
func isAsked(m api.Msg) bool  { return m.Kind == api.MsgStart || m.Kind == api.MsgInstall }

// second is an outbox, as a list of keys and texts.
type second struct {
	keys  []key
	texts []string
}

func (s *second) ask(to int, m api.Msg) api.Errno {
	text, why := wire.Write(m)
	if to < 0 || to > 7 {
		return api.ErrRange
	}
	if why != api.OK {
		return api.ErrWire
	}
	if !isAsked(m) {
		return api.ErrType
	}
	for i, x := range s.texts {
		if x == text && s.keys[i].to == to {
			return api.ErrTwice
		}
	}
	if len(s.keys) == 512 {
		return api.ErrFull
	}
	s.keys, s.texts = append(s.keys, keyOf(to, m)), append(s.texts, text)
	return api.OK
}

// leave lets those go of which gone tells so, and is how many these were.
func (s *second) leave(gone func(k key) bool) int {
	var left second
	for i, k := range s.keys {
		if !gone(k) {
			left.keys, left.texts = append(left.keys, k), append(left.texts, s.texts[i])
		}
	}
	n := len(s.keys) - len(left.keys)
	*s = left
	return n
}

// is tells whether b is just s.
func (s *second) is(b api.Outbox) bool {
	if len(b.Open) != len(s.keys) {
		return false
	}
	for i, a := range b.Open {
		text, why := wire.Write(a.Msg)
		if why != api.OK || text != s.texts[i] || a.To != s.keys[i].to {
			return false
		}
	}
	return true
}

func randomMessage(r *rand.Rand) api.Msg {
	q := qid(uint64(r.IntN(2)), uint64(r.IntN(3)))
	f := shard(pick(r, "t", "u"), api.Version{Boot: 1, Load: uint64(r.IntN(2))}, r.IntN(3))
	switch r.IntN(12) {
	case 0:
		return pick(r, notAsked()...)
	case 1:
		return pick(r, notRight()...)
	case 2, 3, 4:
		m := install(f)
		if r.IntN(3) == 0 {
			m.File.Rows = append(m.File.Rows, row(int64(r.IntN(2))))
		}
		return m
	}
	m := start(q, r.IntN(2), r.IntN(3))
	if r.IntN(3) == 0 {
		m.Frag.Node = r.IntN(3)
	}
	return m
}

// randomAnswer is one to something that was asked, or to anything.
func randomAnswer(r *rand.Rand, b api.Outbox) api.Msg {
	m := randomMessage(r)
	if len(b.Open) > 0 && r.IntN(2) == 0 {
		m = pick(r, b.Open...).Msg
	}
	switch {
	case m.Kind == api.MsgStart && r.IntN(9) > 0:
		return started(m.Stream.Query, m.Stream.Attempt, m.Frag.Id)
	case m.Kind == api.MsgInstall && r.IntN(9) > 0:
		return installed(api.File{Table: m.File.Table, Version: m.File.Version, Shard: m.File.Shard})
	default:
		return m
	}
}

func TestOutboxesAsTheDocumentSays(t *testing.T) { // 12.1, 12.4
	r := rand.New(rand.NewPCG(12, 2))
	seen := make(map[api.Errno]int)
	answered, not, forgotten := 0, 0, 0
	for range 500 {
		var b api.Outbox
		s := &second{}
		for range 60 {
			next := b
			switch r.IntN(8) {
			default:
				to, m := pick(r, 0, 1, 1, 2, 7, 1, 8, -1), randomMessage(r)
				var why api.Errno
				next, why = rpc.Ask(b, to, m)
				if want := s.ask(to, m); why != want {
					t.Fatalf("Ask(%v, %d, %v): error %d; not %d", b, to, m, why, want)
				}
				seen[why]++
			case 0, 1, 2:
				from, m := pick(r, 0, 1, 1, 2, 7, 8, -1), randomAnswer(r, b)
				var was bool
				next, was = rpc.Answer(b, from, m)
				n := s.leave(func(k key) bool { return isAnswer(m) && k == keyOf(from, m) })
				if was != (n > 0) {
					t.Fatalf("Answer(%v, %d, %v) is %v", b, from, m, was)
				}
				answered, not = answered+n, not+1-min(n, 1)
			case 3:
				q := qid(uint64(r.IntN(2)), uint64(r.IntN(3)))
				next = rpc.Forget(b, q)
				forgotten += s.leave(func(k key) bool { return k.kind == api.MsgStart && k.query == q })
			}
			if !s.is(next) || rpc.Check(next) != api.OK {
				t.Fatalf("%v became %v", b, next)
			}
			b = next
		}
	}
	for _, why := range []api.Errno{api.OK, api.ErrRange, api.ErrWire, api.ErrType, api.ErrTwice} {
		if seen[why] < 200 {
			t.Errorf("error %d was seen %d times", why, seen[why])
		}
	}
	if answered < 500 || not < 500 || forgotten < 500 {
		t.Errorf("%d were answered, %d answers fit nothing, %d were forgotten", answered, not, forgotten)
	}
}

func TestTillAnswered(t *testing.T) { // 12.4: whatever else is asked, answered and forgotten
	r := rand.New(rand.NewPCG(12, 3))
	for i := range 300 {
		mine, fits := rich(), started(qid(1, 2), 3, 4)
		if i%2 == 0 {
			mine, fits = richInstall(), installed(shard("t", api.Version{Boot: 1, Load: 2}, 3))
		}
		there := func(b api.Outbox) int {
			n := 0
			for _, a := range b.Open {
				if a.To == 5 && reflect.DeepEqual(a.Msg, mine) {
					n++
				}
			}
			return n
		}
		b, why := rpc.Ask(many(r.IntN(5)), 5, mine)
		if why != api.OK {
			t.Fatal("Ask: error", why)
		}
		for range 40 {
			switch r.IntN(3) {
			case 0:
				b, _ = rpc.Ask(b, r.IntN(8), randomMessage(r))
			case 1:
				if m := randomAnswer(r, b); !isAnswer(m) || keyOf(5, m) != keyOf(5, mine) {
					b, _ = rpc.Answer(b, pick(r, 0, 1, 2, 5), m)
				}
				b, _ = rpc.Answer(b, 4, fits)
			case 2:
				b = rpc.Forget(b, qid(uint64(r.IntN(2)), uint64(3+r.IntN(3))))
			}
			if n := there(b); n != 1 {
				t.Fatalf("%d times there: %v", n, b)
			}
		}
		if i%4 < 3 {
			c, was := rpc.Answer(b, 5, fits)
			if d, again := rpc.Answer(c, 5, fits); !was || there(c) != 0 || again || !alike(c, d) {
				t.Fatalf("answered: %v, %v; and again %v", c, was, again)
			}
		} else if c := rpc.Forget(b, qid(1, 2)); there(c) != 0 {
			t.Fatalf("forgotten: %v", c)
		}
	}
}

// span is a piece of memory.
type span struct{ from, to uintptr }

func (a span) meets(b span) bool { return a.from < b.to && b.from < a.to }

// memory is where v's lists, with the room behind them, and its texts lie.
func memory(v reflect.Value) (l []span) {
	switch v.Kind() {
	case reflect.String:
		if s := v.String(); s != "" {
			p := uintptr(unsafe.Pointer(unsafe.StringData(s)))
			l = append(l, span{p, p + uintptr(len(s))})
		}
	case reflect.Slice:
		if n := uintptr(v.Cap()) * v.Type().Elem().Size(); n > 0 {
			l = append(l, span{v.Pointer(), v.Pointer() + n})
		}
		for i := range v.Len() {
			l = append(l, memory(v.Index(i))...)
		}
	case reflect.Struct:
		for i := range v.NumField() {
			l = append(l, memory(v.Field(i))...)
		}
	}
	return l
}

func meet(a, b []span) bool {
	return slices.ContainsFunc(a, func(x span) bool { return slices.ContainsFunc(b, x.meets) })
}

// answers are what all calls make of an outbox, a message and a window.
func answers(b api.Outbox, m api.Msg, w api.WindowOf) []any {
	asked, _ := rpc.Ask(b, 4, m)
	refused, _ := rpc.Ask(b, 9, m)
	answered, _ := rpc.Answer(b, 1, started(qid(1, 2), 3, 4))
	not, _ := rpc.Answer(b, 6, m)
	put, _ := rpc.Put(w, qid(1, 2))
	again, _ := rpc.Put(w, qid(9, 9))
	return []any{asked, refused, answered, not, rpc.Forget(b, qid(1, 2)), rpc.Forget(b, qid(7, 7)), put, again, rpc.Check(b), rpc.CheckWindow(w), rpc.Has(w, qid(1, 2))}
}

// given is an outbox, a message and a window with room behind their lists, in which something stands.
func given(b api.Outbox, w api.WindowOf) (api.Outbox, api.Msg, api.WindowOf) {
	b.Open = append(slices.Clone(b.Open), ask(3, rich()), ask(4, richInstall()))
	b.Open = b.Open[:len(b.Open)-2]
	w.Ids = append(slices.Clone(w.Ids), qid(1, 2), qid(9, 9))
	w.Ids = w.Ids[:len(w.Ids)-2]
	m := rich()
	m.Nodes = m.Nodes[:1]
	m.Bound.Table = strings.Clone("t")
	return b, m, w
}

func outboxes() []api.Outbox {
	return []api.Outbox{
		{}, of(ask(1, rich()), ask(2, richInstall()), ask(1, start(qid(7, 7), 1, 1))), of(ask(1, richInstall())),
		of(ask(9, rich()), ask(1, richInstall())), of(ask(1, api.Msg{Kind: 99, Rows: []api.Row{row(1)}, Claims: []api.Claim{{Table: "t", Owners: [][]int{{1}}}}, Catalog: []api.Table{{Rows: []api.Row{row(2)}}}})),
	}
}

func windows() []api.WindowOf {
	return []api.WindowOf{{}, window(0, 1), window(0, 5), window(0, 16), window(0, 20)}
}

func TestNewMemory(t *testing.T) { // 12.3
	for i, x := range outboxes() {
		for k, y := range windows() {
			b, m, w := given(x, y)
			theirs := slices.Concat(memory(reflect.ValueOf(b)), memory(reflect.ValueOf(m)), memory(reflect.ValueOf(w)))
			earlier := answers(b, m, w)
			for j, a := range answers(b, m, w) {
				own := memory(reflect.ValueOf(a))
				if meet(own, theirs) {
					t.Errorf("%d, %d: answer %d shares memory with what was handed in", i, k, j)
				}
				if meet(own, memory(reflect.ValueOf(earlier[j]))) {
					t.Errorf("%d, %d: answer %d shares memory with an earlier one", i, k, j)
				}
				for n, s := range own {
					if meet([]span{s}, own[n+1:]) {
						t.Errorf("%d, %d: two parts of answer %d share memory", i, k, j)
					}
				}
			}
			runtime.KeepAlive(b)
			runtime.KeepAlive(m)
			runtime.KeepAlive(w)
			runtime.KeepAlive(earlier)
		}
	}
}

func TestNothingIsChanged(t *testing.T) { // 12.3, P3
	for i, x := range outboxes() {
		for k, y := range windows() {
			b, m, w := given(x, y)
			n, o := len(b.Open), len(w.Ids)
			look := func() []any {
				return []any{tidy(of(b.Open[:n+2]...)), tidy(of(ask(0, m))), slices.Clone(m.Nodes[:3]), slices.Clone(w.Ids[:o+2])}
			}
			before := look()
			first := answers(b, m, w)
			if !reflect.DeepEqual(look(), before) {
				t.Errorf("%d, %d: what was handed in was changed: %v, %v, %v", i, k, b, m, w)
			}
			b.Open, w.Ids, m.Nodes = slices.Clip(slices.Clone(b.Open)), slices.Clip(slices.Clone(w.Ids)), slices.Clip(m.Nodes)
			if !reflect.DeepEqual(answers(b, m, w), first) {
				t.Errorf("%d, %d: what is answered hangs on more than the arguments", i, k)
			}
		}
	}
}

func TestSideBySide(t *testing.T) { // 12.3, P3: as nothing is changed, many may ask at once
	b, m, w := given(outboxes()[1], window(0, 16))
	want := answers(b, m, w)
	var g sync.WaitGroup
	for range 8 {
		g.Go(func() {
			for range 20 {
				if got := answers(b, m, w); !reflect.DeepEqual(got, want) {
					t.Errorf("%v; not %v", got, want)
				}
			}
		})
	}
	g.Wait()
}

func TestAnything(t *testing.T) { // P1, P2, P3, P4
	before := runtime.NumGoroutine()
	r := rand.New(rand.NewPCG(12, 4))
	rightOnes, rightWindows := 0, 0
	for range 5000 {
		var b api.Outbox
		for range r.IntN(4) {
			b.Open = append(b.Open, ask(pick(r, 0, 1, 2, 7, 7, 1, 3, 8, -1, math.MaxInt), randomMessage(r)))
		}
		var w api.WindowOf
		for range r.IntN(6) * r.IntN(5) {
			w.Ids = append(w.Ids, qid(uint64(r.IntN(3)), uint64(r.IntN(60))))
		}
		to, m, q := pick(r, 0, 1, 2, 7, 8, -1, math.MinInt), randomAnswer(r, b), qid(uint64(r.IntN(3)), uint64(r.IntN(60)))
		asked, why := rpc.Ask(b, to, m)
		again, why1 := rpc.Ask(b, to, m)
		left, was := rpc.Answer(b, to, m)
		put, why2 := rpc.Put(w, q)
		if !reflect.DeepEqual(asked, again) || why != why1 || why != api.OK && !alike(asked, b) || why == api.OK && rpc.Check(asked) != api.OK {
			t.Fatalf("Ask(%v, %d, %v) is %v, error %d; and %v, error %d", b, to, m, asked, why, again, why1)
		}
		if was != (len(left.Open) < len(b.Open)) || !was && !alike(left, b) {
			t.Fatalf("Answer(%v, %d, %v) is %v, %v", b, to, m, left, was)
		}
		if (rpc.Check(b) == api.ErrState) != (why == api.ErrState) || rpc.CheckWindow(w) != why2 || why2 == api.OK && (!rpc.Has(put, q) || rpc.CheckWindow(put) != api.OK) {
			t.Fatalf("of %v and %v: error %d; %v, error %d", b, w, why, put, why2)
		}
		if rpc.Check(b) == api.OK {
			rightOnes++
			if rpc.Check(left) != api.OK || rpc.Check(rpc.Forget(b, q)) != api.OK {
				t.Fatalf("of %v: %v", b, left)
			}
		}
		if rpc.CheckWindow(w) == api.OK {
			rightWindows++
		}
	}
	if rightOnes < 1000 || rightOnes > 4500 || rightWindows < 1000 || rightWindows > 4500 {
		t.Errorf("%d outboxes and %d windows are right", rightOnes, rightWindows)
	}
	if n := runtime.NumGoroutine(); n > before { // an earlier test's own may have ended meanwhile
		t.Errorf("%d goroutines, and %d before", n, before)
	}
}

func TestNilAndEmptyAreAlike(t *testing.T) { // P1
	for _, l := range [][]api.Asked{nil, {}} {
		b := api.Outbox{Open: l}
		asks(t, "nothing asked", b, 1, rich(), api.OK)
		asks(t, "nothing asked, an error", b, 8, rich(), api.ErrRange)
		answer(t, "nothing asked", b, 1, started(qid(1, 2), 3, 4))
		forget(t, "nothing asked", b, qid(1, 2))
	}
	for _, l := range [][]api.Qid{nil, {}} {
		w := api.WindowOf{Ids: l}
		puts(t, "nothing put", w, qid(1, 2), windowOf(qid(1, 2)))
		if rpc.CheckWindow(w) != api.OK || rpc.Has(w, api.Qid{}) {
			t.Error("an empty window")
		}
	}
	for _, rows := range [][]api.Row{nil, {}} {
		m := install(shard("t", api.Version{}, 1))
		m.File.Rows, m.Rows = rows, rows
		asks(t, "no rows", api.Outbox{}, 1, m, api.OK)
	}
}
