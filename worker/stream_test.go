package worker_test

import (
	"math"
	"slices"
	"testing"

	"potsherd/api"
	"potsherd/stream"
	"potsherd/worker"
)

// waits is a Start of a join that reads what other fragments send: u's rows of fragment 0, on node 1.
func waits() api.Msg { return ask(joined, join(shard("t", 0), sent(0))) }

// pairs are what the join comes to, of rows of both with these keys.
func pairs(from, to int) (l []api.Row) {
	for i := from; i < to; i++ {
		l = append(l, api.Row{ts(i, i+1)[0][1], us(i, i+1)[0][1]})
	}
	return l
}

// received is a stream of which those messages came.
func received(s api.Stream, l ...api.Msg) api.In {
	in := api.In{Stream: s}
	for _, m := range l {
		in, _ = stream.Take(in, m)
	}
	return in
}

func TestBatch(t *testing.T) { // 16.2
	other := task(ofQuery(theirs(), waits()), 3, []api.In{{Stream: api.Stream{Query: theirs(), Attempt: attempt, From: 0, To: 5}}})
	beside := task(ask(all, api.Frag{Id: 9, Node: me, Left: shard("t", 2)}), 4, nil)
	n := &node{t, opened(7, other, task(waits(), 5, []api.In{{Stream: link(0, 5)}}), beside)}
	l := batches(link(0, 5), us(2, 20))
	n.receive("the first", 1, l[0], post(1, ack(link(0, 5), 1))...)
	beside.Seen = 7
	n.is("the first", opened(7, other, task(waits(), 7, []api.In{received(link(0, 5), l[0])}), beside))
	n.receive("the first again", 1, l[0], post(1, ack(link(0, 5), 1))...)
	n.is("the first again", opened(7, other, task(waits(), 7, []api.In{received(link(0, 5), l[0])}), beside))
	n.receive("the last", 1, l[2], post(1, ack(link(0, 5), 1))...)
	n.has("the last", other, task(waits(), 7, []api.In{received(link(0, 5), l[0], l[2])}), beside)
	n.receive("all", 1, l[1], slices.Concat(post(1, ack(link(0, 5), 3)), post(0, batches(link(5, -1), pairs(2, 20))...))...)
	ran := task(waits(), 7, []api.In{received(link(0, 5), l...)}, out(link(5, -1), pairs(2, 20), 0))
	n.is("all", opened(7, other, ran, beside))
	for _, m := range l {
		n.receive("again, once it was run", 1, m, post(1, ack(link(0, 5), 3))...)
		n.has("again, once it was run", other, ran, beside)
	}
	n.receive("from another node, which is no matter", 6, l[0], post(1, ack(link(0, 5), 3))...)
	n.receive("one that is not there", 1, api.Msg{Kind: api.MsgBatch, Stream: link(0, 5), Seq: 99}, post(1, ack(link(0, 5), 3))...)
	n.is("all", opened(7, other, ran, beside))
}

func TestBatchIsHeardOf(t *testing.T) { // 16.2: an older one, too, marks all Tasks of its query
	for _, from := range []int{0, 1, me, 8, -1} {
		l := batches(link(0, 5), us(0, 20))
		n := &node{t, opened(7, task(waits(), 0, []api.In{received(link(0, 5), l[0])}), task(ask(all, api.Frag{Id: 9, Node: me, Left: shard("t", 2)}), 1, nil))}
		n.receive("again", from, l[0], post(1, ack(link(0, 5), 1))...)
		if n.Tasks[0].Seen != 7 || n.Tasks[1].Seen != 7 {
			t.Error("the tasks are", n.Tasks)
		}
	}
}

func TestBatchThatIsNotTaken(t *testing.T) { // 16.2, 16.6
	l := batches(link(0, 5), us(0, 50))
	held := []api.In{received(link(0, 5), l[0], l[2])}
	ended := l[3]
	ended.Last = true
	whole := []api.In{received(link(0, 5), l[0], l[1], ended)}
	for name, ins := range map[string][]api.In{"nothing came": {{Stream: link(0, 5)}}, "some came": held, "the last is held": whole, "no Ins": nil} {
		n := &node{t, opened(7, task(waits(), 5, ins))}
		for what, s := range map[string]api.Stream{
			"another query":           {Query: theirs(), Attempt: attempt, From: 0, To: 5},
			"a smaller attempt":       {Query: mine(), Attempt: attempt - 1, From: 0, To: 5},
			"a greater attempt":       {Query: mine(), Attempt: attempt + 1, From: 0, To: 5},
			"no input of it":          {Query: mine(), Attempt: attempt, From: 1, To: 5},
			"of itself":               {Query: mine(), Attempt: attempt, From: 5, To: 5},
			"to no task":              {Query: mine(), Attempt: attempt, From: 0, To: 6},
			"to the coordinator":      {Query: mine(), Attempt: attempt, From: 0, To: -1},
			"to no fragment":          {Query: mine(), Attempt: attempt, From: 0, To: math.MinInt},
			"the other way":           {Query: mine(), Attempt: attempt, From: 5, To: 0},
			"another opening's query": {Query: api.Qid{Boot: 2, N: 1}, Attempt: attempt, From: 0, To: 5},
		} {
			for _, m := range batches(s, us(0, 20)) {
				n.ignores(name+", "+what, 1, m)
			}
		}
		for _, seq := range []uint64{5, 6, 511, 512, most} {
			n.ignores(name+", beyond the credits", 1, api.Msg{Kind: api.MsgBatch, Stream: link(0, 5), Seq: seq, Rows: us(0, 8)})
		}
		n.ignores(name+", a row too many", 1, api.Msg{Kind: api.MsgBatch, Stream: link(0, 5), Seq: 1, Rows: us(0, 9)})
	}
	n := &node{t, opened(7, task(waits(), 5, held))}
	n.ignores("a last one ahead of one that is held", 1, api.Msg{Kind: api.MsgBatch, Stream: link(0, 5), Seq: 1, Last: true})
	n = &node{t, opened(7, task(waits(), 5, whole))}
	n.ignores("one behind the last one", 1, l[4])
	n = &node{t, opened(7)}
	n.ignores("no task at all", 1, l[0])
}

func TestBatchFromNowhere(t *testing.T) { // 16.2: where a stream comes from
	m := ask(joined, join(shard("t", 1), sent(4, 1, -1, 6, 7, 8, 9, -2, math.MaxInt, math.MinInt, 0)))
	at := map[int]int{4: 7, 1: me, -1: 0, 6: 0, 0: 1}
	n := &node{t, opened(7)}
	n.receive("a Start", 0, m, begun(5)...)
	for i, frag := range m.Frag.Right.Frags {
		var want []api.Post
		if node, ok := at[frag]; ok {
			want = post(node, ack(link(frag, 5), 1))
		}
		if i == 10 {
			want = append(want, post(0, batches(link(5, -1), nil)...)...)
		}
		n.receive("one batch", 3, batches(link(frag, 5), us(i, i+1))[0], want...)
		if !n.Tasks[0].Ins[i].Done || n.Tasks[0].Ran != (i == 10) {
			t.Error("the tasks are", n.Tasks)
		}
	}
}

func TestBatchRunsWhatMayBeRun(t *testing.T) { // 16.2: all that a Task reads has come, but there was no shard
	m := ask(joined, join(shard("t", 3), sent(0)))
	l := batches(link(0, 5), us(0, 9))
	n := &node{t, opened(7)}
	n.receive("a Start", 0, m, begun(5)...)
	n.receive("the first", 1, l[0], post(1, ack(link(0, 5), 1))...)
	n.receive("the last", 1, l[1], post(1, ack(link(0, 5), 2))...)
	n.has("no shard", task(m, 7, []api.In{received(link(0, 5), l...)}))
	f := file("t", 3, ts(4, 6))
	n.receive("the shard", 0, install(f), post(0, installed(f))...)
	n.has("the shard alone", task(m, 7, []api.In{received(link(0, 5), l...)}))
	n.ignores("a batch that is refused", 1, api.Msg{Kind: api.MsgBatch, Stream: link(0, 5), Seq: 1, Rows: us(0, 9)})
	n.receive("a batch again", 1, l[0], slices.Concat(post(1, ack(link(0, 5), 2)), post(0, batches(link(5, -1), pairs(4, 6))...))...)
	n.has("a batch again", task(m, 7, []api.In{received(link(0, 5), l...)}, out(link(5, -1), pairs(4, 6), 0)))
}

func TestBatchOfRowsThatAreNotRight(t *testing.T) { // 16.2: with exec.Run's error it is not run
	l := batches(link(0, 5), ts(0, 3)) // rows of the other table
	n := &node{t, opened(7, task(waits(), 5, []api.In{{Stream: link(0, 5)}}))}
	n.receive("other rows", 1, l[0], post(1, ack(link(0, 5), 1))...)
	n.has("other rows", task(waits(), 7, []api.In{received(link(0, 5), l...)}))
	n.tick("a tick", beat()...)
	n.has("a tick", task(waits(), 7, []api.In{received(link(0, 5), l...)}))
}

func TestRowsByTheList(t *testing.T) { // 16.2: the Rows of its Ins, one behind the other, by the list
	done := func(from int, rows []api.Row) api.In { return received(link(from, 5), batches(link(from, 5), rows)...) }
	ins := []api.In{done(0, us(0, 3)), done(1, us(3, 6)), done(2, nil), done(4, us(6, 20)), done(9, us(50, 60))}
	for name, x := range map[string]struct {
		list []int
		ins  []api.In
		want []api.Row
	}{
		"as they stand":          {[]int{0, 1, 2, 4}, ins, us(0, 20)},
		"the other way round":    {[]int{4, 2, 1, 0}, ins, slices.Concat(us(6, 20), us(3, 6), us(0, 3))},
		"one":                    {[]int{1}, ins, us(3, 6)},
		"one without rows":       {[]int{2}, ins, nil},
		"one twice":              {[]int{1, 0, 1, 1}, ins, slices.Concat(us(3, 6), us(0, 3))},
		"one that is not there":  {[]int{1, 7}, ins, us(3, 6)},
		"none":                   {nil, ins, nil},
		"two Ins of a number":    {[]int{0, 4}, append(slices.Clone(ins), done(0, us(30, 33))), slices.Concat(us(0, 3), us(30, 33), us(6, 20))},
		"an In of another query": {[]int{4, 7}, append(slices.Clone(ins), received(api.Stream{From: 7}, batches(api.Stream{From: 7}, us(8, 9))...)), slices.Concat(us(6, 20), us(8, 9))},
	} {
		// Of a query that sends all of its one table's rows on, so that their order is seen.
		m := ask("(from u)", join(sent(x.list...), sent(9)))
		n := &node{t, opened(7, task(m, 7, x.ins))}
		n.tick(name, slices.Concat(beat(), post(0, batches(link(5, -1), x.want)...))...)
		m = ask("(from t (join u t.k u.k) (get u.k n))", join(shard("t", 5), sent(x.list...)))
		w := opened(7, task(m, 7, x.ins))
		w, _ = worker.Receive(w, 0, install(file("t", 5, ts(0, 40))))
		n = &node{t, w}
		sorted := slices.Clone(x.want)
		slices.SortStableFunc(sorted, func(a, b api.Row) int { return int(a[0].N - b[0].N) })
		n.tick(name+", of the right", slices.Concat(beat(), post(0, batches(link(5, -1), sorted)...))...)
	}
}

func TestANumberOfBothSides(t *testing.T) { // 16.2: one In, which both read
	m := ask("(from u (join t u.k t.k) (get n t.k))", join(sent(0, 2), sent(2, 0)))
	m.Catalog[0].Cols = m.Catalog[1].Cols // both tables have the same columns
	n := &node{t, opened(7)}
	n.receive("a Start", 0, m, begun(5)...)
	n.receive("the first", 1, batches(link(0, 5), us(0, 3))[0], post(1, ack(link(0, 5), 1))...)
	want := []api.Row{{whole(0), whole(0)}, {whole(10), whole(1)}, {whole(20), whole(2)}, {whole(30), whole(3)}}
	n.receive("the second", 3, batches(link(2, 5), us(3, 4))[0], slices.Concat(post(3, ack(link(2, 5), 1)), post(0, batches(link(5, -1), want)...))...)
}

func TestBatchBeyondTheLastNumber(t *testing.T) { // 16.5: a stream made by hand, past whose end it would not be right any more
	far := api.In{Stream: link(0, 5), Next: 511, Held: []api.Batch{{Seq: 512}, {Seq: 513, Last: true}}}
	n := &node{t, opened(7, task(waits(), 5, []api.In{far}))}
	n.ignores("the last number", 1, api.Msg{Kind: api.MsgBatch, Stream: link(0, 5), Seq: 511})
	n.receive("one that came", 1, api.Msg{Kind: api.MsgBatch, Stream: link(0, 5), Seq: 510}, post(1, ack(link(0, 5), 511))...)
	near := api.In{Stream: link(0, 5), Next: 510, Held: []api.Batch{{Seq: 511, Last: true}}}
	n = &node{t, opened(7, task(waits(), 5, []api.In{near}))}
	n.receive("the last number but one", 1, api.Msg{Kind: api.MsgBatch, Stream: link(0, 5), Seq: 510}, slices.Concat(post(1, ack(link(0, 5), 512)), post(0, batches(link(5, -1), nil)...))...)
	if !n.Tasks[0].Ran || n.Tasks[0].Ins[0].Next != 512 {
		t.Error("the tasks are", n.Tasks)
	}
}

func TestCredits(t *testing.T) { // 16.8
	l := batches(link(0, 5), us(0, 200))
	n := &node{t, opened(7)}
	n.receive("a Start", 0, waits(), begun(5)...)
	for _, i := range []int{24, 9, 5, 4} {
		n.ignores("beyond the credits", 1, l[i])
	}
	for _, i := range []int{3, 1, 2} {
		n.receive("ahead", 1, l[i], post(1, ack(link(0, 5), 0))...)
	}
	if len(n.Tasks[0].Ins[0].Held) != 3 {
		t.Error("held are", n.Tasks[0].Ins[0].Held)
	}
	n.receive("the first", 1, l[0], post(1, ack(link(0, 5), 4))...)
	n.receive("by now within the credits", 1, l[7], post(1, ack(link(0, 5), 4))...)
	n.ignores("beyond them still", 1, l[8])
}

// sends is a worker with a Task that was run, whose Outs have that much acked.
func sends(acked ...uint64) (api.Worker, api.Task) {
	m := ask(joined, spread(4, 0))
	x := task(m, 5, nil, out(link(3, 4), us(0, 60), acked[0]), out(link(3, 0), us(0, 60), acked[1]))
	return opened(7, x, task(ask(all, api.Frag{Id: 9, Node: me, Left: shard("t", 2)}), 4, nil)), x
}

func TestAck(t *testing.T) { // 16.2
	w, x := sends(1, 2)
	n := &node{t, w}
	l := batches(link(3, 4), us(0, 60))
	n.receive("more", 7, ack(link(3, 4), 3), post(7, l[3:7]...)...)
	x.Outs[0].Acked, x.Seen = 3, 7
	beside := w.Tasks[1]
	beside.Seen = 7
	n.is("more", opened(7, x, beside))
	n.receive("the same", 7, ack(link(3, 4), 3))
	n.has("the same", x, beside)
	n.receive("less", 7, ack(link(3, 4), 2))
	x.Outs[0].Acked = 2
	n.has("less", x, beside)
	n.receive("nothing", 7, ack(link(3, 4), 0))
	x.Outs[0].Acked = 0
	n.has("nothing", x, beside)
	n.receive("more than is left of", 7, ack(link(3, 4), 6), post(7, l[6:]...)...)
	n.receive("the last but one", 3, ack(link(3, 4), 7), post(7, l[7:]...)...)
	n.receive("all", 3, ack(link(3, 4), 8))
	x.Outs[0].Acked = 8
	n.has("all", x, beside)
	n.receive("the other stream", 1, ack(link(3, 0), 5), post(1, batches(link(3, 0), us(0, 60))[5:]...)...)
	x.Outs[1].Acked = 5
	n.has("the other stream", x, beside)
}

func TestAckOfTooMuch(t *testing.T) { // 16.2: stream.Acked leaves it; it is heard of all the same
	for _, seq := range []uint64{9, 10, 512, most} {
		w, x := sends(1, 2)
		n := &node{t, w}
		n.receive("too much", 7, ack(link(3, 4), seq))
		x.Seen = 7
		beside := w.Tasks[1]
		beside.Seen = 7
		n.is("too much", opened(7, x, beside))
	}
}

func TestAckThatIsNotTaken(t *testing.T) { // 16.2, 16.6
	w, _ := sends(1, 2)
	w.Tasks = append(w.Tasks, task(waits(), 5, []api.In{{Stream: link(0, 5)}}))
	n := &node{t, w}
	for what, s := range map[string]api.Stream{
		"another query":           {Query: theirs(), Attempt: attempt, From: 3, To: 4},
		"a smaller attempt":       {Query: mine(), Attempt: attempt - 1, From: 3, To: 4},
		"a greater attempt":       {Query: mine(), Attempt: attempt + 1, From: 3, To: 4},
		"no stream of it":         {Query: mine(), Attempt: attempt, From: 3, To: 5},
		"to the coordinator":      {Query: mine(), Attempt: attempt, From: 3, To: -1},
		"of no task":              {Query: mine(), Attempt: attempt, From: 1, To: 4},
		"of a task without it":    {Query: mine(), Attempt: attempt, From: 9, To: 4},
		"the other way":           {Query: mine(), Attempt: attempt, From: 4, To: 3},
		"of one that it receives": {Query: mine(), Attempt: attempt, From: 0, To: 5},
		"another opening's query": {Query: api.Qid{Boot: 2, N: 1}, Attempt: attempt, From: 3, To: 4},
	} {
		for _, seq := range []uint64{0, 1, 2, 3, 8, 9, most} {
			n.ignores(what, 7, ack(s, seq))
		}
	}
}

func TestAckOfAStreamThatGoesNowhere(t *testing.T) { // 16.2
	for _, to := range []int{7, 8, 9, 63, -2, math.MaxInt} {
		m := ask(joined, spread(to))
		n := &node{t, opened(7, task(m, 5, nil, out(link(3, to), us(0, 60), 0)))}
		n.receive("nowhere", 7, ack(link(3, to), 3))
		n.has("nowhere", task(m, 7, nil, out(link(3, to), us(0, 60), 3)))
		n.tick("nowhere", beat()...)
	}
}

func TestAckOfTwoStreamsAlike(t *testing.T) { // 16.2: an Out of that Stream: the first one
	m := ask(joined, spread(4, 4))
	n := &node{t, opened(7, task(m, 5, nil, out(link(3, 4), us(0, 20), 0), out(link(3, 4), us(20, 40), 0)))}
	n.receive("the first", 7, ack(link(3, 4), 2), post(7, batches(link(3, 4), us(0, 20))[2:]...)...)
	n.has("the first", task(m, 7, nil, out(link(3, 4), us(0, 20), 2), out(link(3, 4), us(20, 40), 0)))
}
