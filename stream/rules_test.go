package stream_test

import (
	"math"
	"math/rand/v2"
	"reflect"
	"runtime"
	"slices"
	"sync"
	"testing"
	"unsafe"

	"potsherd/api"
	"potsherd/net"
	"potsherd/stream"
	"potsherd/wire"
)

// tidy is a new x whose empty lists are nil.
func tidy(x any) any {
	var walk func(v reflect.Value) reflect.Value
	walk = func(v reflect.Value) reflect.Value {
		out := reflect.New(v.Type()).Elem()
		out.Set(v)
		switch v.Kind() {
		case reflect.Slice:
			out.SetZero()
			for i := range v.Len() {
				out.Set(reflect.Append(out, walk(v.Index(i))))
			}
		case reflect.Struct:
			for i := range v.NumField() {
				out.Field(i).Set(walk(v.Field(i)))
			}
		}
		return out
	}
	return walk(reflect.ValueOf(x)).Interface()
}

// alike tells whether two things are, nil and empty lists being so.
func alike(a, b any) bool { return reflect.DeepEqual(tidy(a), tidy(b)) }

func pick[T any](r *rand.Rand, l ...T) T { return l[r.IntN(len(l))] }

// The chapter's words once more: a stream is what came of it by number, and all else is told from that.

type second map[uint64]api.Msg

func (s second) next() (n uint64) {
	for s[n].Kind == api.MsgBatch {
		n++
	}
	return n
}

// last is the number of the last batch, if that came.
func (s second) last() (uint64, bool) {
	for seq, m := range s {
		if m.Last {
			return seq, true
		}
	}
	return 0, false
}

func (s second) greatest() (n uint64) {
	for seq := range s {
		n = max(n, seq)
	}
	return n
}

func (s second) isDone() bool {
	last, ok := s.last()
	return ok && last < s.next()
}

func (s second) take(m api.Msg) api.Errno {
	last, ends := s.last()
	switch next := s.next(); {
	case m.Kind != 4 || m.Stream != mine || len(m.Rows) > 8:
		return api.ErrType
	case s.isDone() || s[m.Seq].Kind == api.MsgBatch:
		return api.ErrTwice
	case m.Seq > next+3 || m.Seq > 511:
		return api.ErrRange
	case ends && m.Seq > last || m.Last && m.Seq < s.greatest():
		return api.ErrStale
	}
	s[m.Seq] = m
	return api.OK
}

func (s second) in() api.In {
	next := s.next()
	i := api.In{Stream: mine, Next: next, Done: s.isDone()}
	for seq := range next {
		i.Rows = append(i.Rows, s[seq].Rows...)
	}
	for seq := next; seq < next+9; seq++ {
		if m, ok := s[seq]; ok {
			i.Held = append(i.Held, api.Batch{Seq: seq, Last: m.Last, Rows: m.Rows})
		}
	}
	return i
}

// randomBatch is one near next, now and then one that may not come.
func randomBatch(r *rand.Rand, next uint64) api.Msg {
	seq := next + uint64(r.IntN(6)) - uint64(r.IntN(2))
	m := batch(seq, r.IntN(15) == 0, rows(int(seq%600)*8, int(seq%600)*8+r.IntN(9)))
	switch r.IntN(40) {
	case 0:
		m.Seq = pick(r, 0, 511, 512, 513, math.MaxUint64, uint64(r.IntN(600)))
	case 1:
		m.Kind = api.MsgKind(r.IntN(12))
	case 2:
		m.Stream = others()[pick(r, "another query", "another attempt", "from another fragment", "to the coordinator")]
	case 3:
		m.Rows = rows(0, 9)
	}
	return m
}

func TestTakeAsTheDocumentSays(t *testing.T) { // 13.2, 13.5
	r := rand.New(rand.NewPCG(13, 1))
	seen := make(map[api.Errno]int)
	ended, most := 0, 0
	for range 600 {
		s, i := second{}, api.In{Stream: mine}
		for seq := range uint64(pick(r, 0, 0, 0, 505, 509, 512)) { // far on, streams are near their end
			s[seq] = batch(seq, false, nil)
		}
		i = s.in()
		for range 60 {
			m := randomBatch(r, i.Next)
			next, why := stream.Take(i, m)
			if want := s.take(m); why != want {
				t.Fatalf("Take(%v, %v): error %d; not %d", i, m, why, want)
			}
			if !alike(next, s.in()) || stream.CheckIn(next) != api.OK || len(next.Held) > 4 {
				t.Fatalf("Take(%v, %v) is %v", i, m, next)
			}
			seen[why]++
			most = max(most, len(next.Held))
			i = next
		}
		if i.Done {
			ended++
		}
	}
	for _, why := range []api.Errno{api.OK, api.ErrType, api.ErrTwice, api.ErrRange, api.ErrStale} {
		if seen[why] < 200 {
			t.Errorf("error %d was seen %d times", why, seen[why])
		}
	}
	if ended < 80 || most != 3 {
		t.Errorf("%d were done, and at most %d held", ended, most)
	}
}

// isBeginning tells whether a begins as b does, by all values.
func isBeginning(a, b []api.Row) bool {
	return len(a) <= len(b) && slices.EqualFunc(a, b[:len(a)], func(x, y api.Row) bool { return slices.Equal(x, y) })
}

// link is a stream between two nodes, over a network that loses, doubles and mixes.
type link struct {
	t   *testing.T
	r   *rand.Rand
	all []api.Row
	out api.Out
	in  api.In
	net api.Net
}

func (l *link) send(from, to int, m api.Msg) {
	text, why := wire.Write(m)
	if why != api.OK {
		l.t.Fatalf("%v is no message", m)
	}
	if l.net, why = net.Send(l.net, from, to, text); why != api.OK && why != api.ErrFull {
		l.t.Fatal("net.Send: error", why)
	}
}

func (l *link) sendBatches() {
	messages, why := stream.Send(l.out)
	if why != api.OK || len(messages) > 4 {
		l.t.Fatalf("Send(%v) is %v, error %d", l.out, messages, why)
	}
	for _, m := range messages {
		l.send(1, 2, m)
	}
}

// sendOld sends what an attempt that is over sent: other rows, in fewer batches.
func (l *link) sendOld() {
	old := mine
	old.Attempt--
	o, _ := stream.Cut(old, rows(7000, 7000+l.r.IntN(20)))
	messages, _ := stream.Send(o)
	l.send(1, 2, pick(l.r, messages...))
	l.send(2, 1, api.Msg{Kind: api.MsgAck, Stream: old, Seq: uint64(l.r.IntN(9))})
}

func (l *link) deliver() {
	n, p, why := net.Deliver(l.net, l.r.IntN(len(l.net.Packets)))
	if why != api.OK {
		l.t.Fatal("net.Deliver: error", why)
	}
	l.net = n
	m, why := wire.Read(p.Text)
	if why != api.OK {
		l.t.Fatal("wire.Read: error", why)
	}
	if p.To == 1 {
		l.out = stream.Acked(l.out, m.Stream, m.Seq)
		return
	}
	before := l.in
	if l.in, why = stream.Take(before, m); why != api.OK && !alike(l.in, before) {
		l.t.Fatalf("Take(%v, %v) is %v, error %d", before, m, l.in, why)
	}
	if why == api.OK || why == api.ErrTwice {
		l.send(2, 1, stream.Ack(l.in))
	} else if (m.Stream == mine) != (why != api.ErrType) {
		l.t.Fatalf("Take(%v, %v): error %d", before, m, why)
	}
}

// check says that what came is a beginning of what is sent, and all of it once it is done.
func (l *link) check() {
	whole := len(l.in.Rows) == len(l.all)
	if !isBeginning(l.in.Rows, l.all) || l.in.Done && !whole || len(l.in.Held) > 4 || stream.CheckIn(l.in) != api.OK || stream.CheckOut(l.out) != api.OK {
		l.t.Fatalf("of %d rows came %v", len(l.all), l.in)
	}
}

func (l *link) step() {
	switch n := len(l.net.Packets); {
	case n == 0 || l.r.IntN(6) == 0:
		l.sendBatches()
	case l.r.IntN(12) == 0:
		l.sendOld()
	case l.r.IntN(5) == 0:
		l.net, _ = net.Drop(l.net, l.r.IntN(n))
	case n < 40 && l.r.IntN(5) == 0:
		l.net, _ = net.Copy(l.net, l.r.IntN(n))
	default:
		l.deliver()
	}
}

func TestEachOnce(t *testing.T) { // 13.4, 13.5
	r := rand.New(rand.NewPCG(13, 2))
	for _, n := range []int{0, 0, 1, 7, 8, 9, 15, 16, 17, 24, 31, 32, 33, 40, 41, 64, 100, 200, 333} {
		for range 4 {
			l := &link{t: t, r: r, all: rows(0, n), in: api.In{Stream: mine}}
			l.out, _ = stream.Cut(mine, l.all)
			for steps := 0; !l.in.Done; steps++ {
				l.step()
				l.check()
				if steps > 20000 {
					t.Fatalf("%d rows: not done: %v", n, l.in)
				}
			}
			for range 50 { // what comes behind the end changes nothing
				l.step()
				l.check()
			}
		}
	}
}

func TestEachOnceOfAsMany(t *testing.T) { // 13.4: MaxBatches batches, each four the wrong way round
	all := rows(0, 4096)
	o, _ := stream.Cut(mine, all)
	in := api.In{Stream: mine}
	for n := 0; !in.Done; n += 4 {
		messages, why := stream.Send(o)
		if why != api.OK || len(messages) != 4 || n > 512 {
			t.Fatalf("Send: %d messages, error %d", len(messages), why)
		}
		slices.Reverse(messages)
		for _, m := range messages {
			for _, want := range []api.Errno{api.OK, api.ErrTwice} {
				if in, why = stream.Take(in, m); why != want {
					t.Fatalf("Take %d: error %d", m.Seq, why)
				}
			}
		}
		o = stream.Acked(o, mine, stream.Ack(in).Seq)
	}
	if messages, why := stream.Send(o); why != api.OK || len(messages) != 0 || in.Next != 512 || !isBeginning(all, in.Rows) || len(in.Rows) != 4096 {
		t.Errorf("%d rows came, of %d batches; to be sent: %v, error %d", len(in.Rows), in.Next, messages, why)
	}
}

// span is a piece of memory.
type span struct{ from, to uintptr }

func (a span) meets(b span) bool { return a.from < b.to && b.from < a.to }

// memory is where v's lists, with the room behind them, and its texts lie.
func memory(v reflect.Value) (l []span) {
	switch v.Kind() {
	case reflect.String:
		if s := v.String(); s != "" {
			p := uintptr(unsafe.Pointer(unsafe.StringData(s)))
			l = append(l, span{p, p + uintptr(len(s))})
		}
	case reflect.Slice:
		if n := uintptr(v.Cap()) * v.Type().Elem().Size(); n > 0 {
			l = append(l, span{v.Pointer(), v.Pointer() + n})
		}
		for i := range v.Len() {
			l = append(l, memory(v.Index(i))...)
		}
	case reflect.Struct:
		for i := range v.NumField() {
			l = append(l, memory(v.Field(i))...)
		}
	}
	return l
}

func meet(a, b []span) bool {
	return slices.ContainsFunc(a, func(x span) bool { return slices.ContainsFunc(b, x.meets) })
}

// given is what calls are handed, with room behind its lists, in which something stands.
type given struct {
	Rows []api.Row
	Out  api.Out
	In   api.In
	Msg  api.Msg
}

// roomy is a list with room for two behind, in which something stands.
func roomy[T any](l []T, more ...T) []T {
	return append(append(make([]T, 0, len(l)+len(more)), l...), more...)[:len(l)]
}

func givens() (l []given) {
	wrong := api.Out{Stream: mine, Batches: [][]api.Row{rows(0, 9), nil, rows(9, 12)}}
	for _, o := range []api.Out{{}, sized(0, 0), sized(1, 8, 8, 8, 8, 8, 3), sized(5, full(6, 8)...), wrong} {
		for _, i := range []api.In{{}, received(0, 0), received(9, 5), received(9, 5, some(10), lastOne(11)), received(9, 5, some(10), some(12)), done(received(9, 5)), received(0, 9, lastOne(3), some(1))} {
			for _, m := range []api.Msg{some(0), some(9), lastOne(9), some(11), some(13), batch(9, false, rows(0, 9)), {}} {
				x := given{Rows: roomy(rows(0, 17), rows(50, 52)...), Out: o, In: i, Msg: m}
				x.Out.Batches = roomy(o.Batches, rows(60, 61), rows(62, 64))
				x.In.Rows, x.In.Held = roomy(i.Rows, rows(70, 72)...), roomy(i.Held, held(some(80), some(81))...)
				x.Msg.Rows = roomy(m.Rows, rows(90, 92)...)
				l = append(l, x)
			}
		}
	}
	return l
}

// behindAll are the lists of x, with what stands in the room behind them.
func behindAll(x given) any {
	for _, l := range []*[]api.Row{&x.Rows, &x.In.Rows, &x.Msg.Rows} {
		*l = (*l)[:len(*l)+2]
	}
	x.Out.Batches = x.Out.Batches[:len(x.Out.Batches)+2]
	x.In.Held = x.In.Held[:len(x.In.Held)+2]
	return tidy(x)
}

// answers are what all calls make of it.
func answers(x given) []any {
	cut, why := stream.Cut(mine, x.Rows)
	sent, why1 := stream.Send(x.Out)
	taken, why2 := stream.Take(x.In, x.Msg)
	return []any{cut, why, sent, why1, taken, why2, stream.Acked(x.Out, mine, 2), stream.Acked(x.Out, x.Out.Stream, 99), stream.Ack(x.In), stream.CheckOut(x.Out), stream.CheckIn(x.In)}
}

func TestNewMemory(t *testing.T) { // 13.3
	for i, x := range givens() {
		theirs := memory(reflect.ValueOf(x))
		earlier := answers(x)
		for k, a := range answers(x) {
			own := memory(reflect.ValueOf(a))
			if meet(own, theirs) {
				t.Errorf("%d: answer %d shares memory with what was handed in", i, k)
			}
			if meet(own, memory(reflect.ValueOf(earlier[k]))) {
				t.Errorf("%d: answer %d shares memory with an earlier one", i, k)
			}
			for n, s := range own {
				if meet([]span{s}, own[n+1:]) {
					t.Errorf("%d: two parts of answer %d share memory", i, k)
				}
			}
		}
		runtime.KeepAlive(x)
		runtime.KeepAlive(earlier)
	}
}

func TestNothingIsChanged(t *testing.T) { // 13.3, P3
	for i, x := range givens() {
		before := behindAll(x)
		first := answers(x)
		if !reflect.DeepEqual(behindAll(x), before) {
			t.Errorf("%d: what was handed in was changed: %v", i, x)
		}
		x.Rows, x.Msg.Rows = slices.Clip(x.Rows), slices.Clip(x.Msg.Rows)
		x.Out.Batches, x.In.Rows, x.In.Held = slices.Clip(x.Out.Batches), slices.Clip(x.In.Rows), slices.Clip(x.In.Held)
		if !reflect.DeepEqual(answers(x), first) {
			t.Errorf("%d: what is answered hangs on more than the arguments", i)
		}
	}
}

func TestSideBySide(t *testing.T) { // 13.3, P3: as nothing is changed, many may ask at once
	for _, x := range givens()[:80] {
		want := answers(x)
		var g sync.WaitGroup
		for range 4 {
			g.Go(func() {
				if got := answers(x); !reflect.DeepEqual(got, want) {
					t.Errorf("%v; not %v", got, want)
				}
			})
		}
		g.Wait()
	}
}

// randomRows are about n, right or not.
func randomRows(r *rand.Rand, n int) (l []api.Row) {
	for range max(0, n+pick(r, 0, 0, 0, 0, 0, 0, 0, 0, 0, 1, -1, -5)) {
		l = append(l, pick(r, nil, api.Row{}, api.Row{{Kind: 99}}, rows(r.IntN(99), 100)[0]))
	}
	return l
}

func randomOut(r *rand.Rand) api.Out {
	o := api.Out{Stream: mine, Acked: uint64(r.IntN(5))}
	for range r.IntN(6) {
		o.Batches = append(o.Batches, randomRows(r, 8))
	}
	return o
}

func randomIn(r *rand.Rand) api.In {
	i := api.In{Stream: mine, Next: pick(r, uint64(r.IntN(9)), 511, 512, 508, 513, math.MaxUint64-uint64(r.IntN(5))), Done: r.IntN(4) == 0}
	i.Rows = randomRows(r, int(i.Next%8)*r.IntN(9))
	for seq := range uint64(6) {
		if r.IntN(6) == 0 {
			i.Held = append(i.Held, api.Batch{Seq: i.Next + seq, Last: r.IntN(4) == 0, Rows: randomRows(r, r.IntN(9))})
		}
	}
	return i
}

func TestAnything(t *testing.T) { // P1, P2, P3, P4
	before := runtime.NumGoroutine()
	r := rand.New(rand.NewPCG(13, 3))
	rightOuts, rightIns := 0, 0
	for range 8000 {
		o, i := randomOut(r), randomIn(r)
		m := randomBatch(r, i.Next)
		sent, why := stream.Send(o)
		if why != stream.CheckOut(o) || why != api.OK && sent != nil {
			t.Fatalf("Send(%v) is %v, error %d", o, sent, why)
		}
		taken, why := stream.Take(i, m)
		again, why1 := stream.Take(i, m)
		wrong := stream.CheckIn(i) != api.OK
		if !reflect.DeepEqual(taken, again) || why != why1 || wrong != (why == api.ErrState) {
			t.Fatalf("Take(%v, %v) is %v, error %d; and %v, error %d", i, m, taken, why, again, why1)
		}
		if wrong && !reflect.DeepEqual(taken, api.In{}) || !wrong && why != api.OK && !alike(taken, i) {
			t.Fatalf("Take(%v, %v) is %v, error %d", i, m, taken, why)
		}
		if stream.CheckOut(o) == api.OK {
			rightOuts++
		}
		if !wrong {
			rightIns++
		}
		stream.Acked(o, pick(r, mine, api.Stream{}), r.Uint64()>>r.IntN(64))
		stream.Ack(i)
	}
	if rightOuts < 800 || rightOuts > 7200 || rightIns < 800 || rightIns > 7200 {
		t.Errorf("%d streams that are sent and %d that are received are right", rightOuts, rightIns)
	}
	if n := runtime.NumGoroutine(); n > before { // an earlier test's own may have ended meanwhile
		t.Errorf("%d goroutines, and %d before", n, before)
	}
}

func TestNilAndEmptyAreAlike(t *testing.T) { // P1
	for _, l := range [][]api.Row{nil, {}} {
		if got, why := stream.Cut(mine, l); why != api.OK || !alike(got, sized(0, 0)) {
			t.Errorf("no rows: Cut is %v, error %d", got, why)
		}
		o := api.Out{Stream: mine, Batches: [][]api.Row{l}}
		if got, why := stream.Send(o); why != api.OK || !alike(got, []api.Msg{batch(0, true, nil)}) {
			t.Errorf("no rows: Send is %v, error %d", got, why)
		}
		for _, h := range [][]api.Batch{nil, {}} {
			i := api.In{Stream: mine, Rows: l, Held: h}
			takes(t, "no rows", i, batch(0, true, l), done(received(1, 0)))
			takes(t, "no rows ahead", i, batch(2, false, l), received(0, 0, batch(2, false, nil)))
			refuses(t, "no rows", i, batch(4, false, l), api.ErrRange)
			i.Next, i.Done = 1, true
			if why := stream.CheckIn(i); why != api.OK {
				t.Error("done, without rows: error", why)
			}
		}
	}
	for _, l := range [][][]api.Row{nil, {}} {
		if why := stream.CheckOut(api.Out{Stream: mine, Batches: l}); why != api.ErrState {
			t.Error("no batches: error", why)
		}
		if got := stream.Acked(api.Out{Stream: mine, Batches: l}, mine, 0); !alike(got, api.Out{Stream: mine}) {
			t.Error("no batches: Acked is", got)
		}
	}
}
