package worker_test

import (
	"fmt"
	"math"
	"slices"
	"testing"

	"potsherd/api"
	"potsherd/wire"
	"potsherd/worker"
)

func TestStartOfAShard(t *testing.T) { // 16.2, and the chapter's example
	n := &node{t, opened(7)}
	s, m := link(1, -1), ask(all, scan())
	n.receive("a shard", 0, m, slices.Concat(begun(1), post(0, batches(s, ts(0, 40))[:4]...))...)
	n.is("a shard", opened(7, task(m, 7, nil, out(s, ts(0, 40), 0))))
	n = &node{t, opened(7)}
	m.Frag.Left = shard("t", 1)
	n.receive("no rows", 0, m, slices.Concat(begun(1), post(0, batches(s, nil)...))...)
	n.is("no rows", opened(7, task(m, 7, nil, out(s, nil, 0))))
	n = &node{t, opened(0)}
	m = ask("(from t (where (< k 3)) (get s))", scan())
	want := []api.Row{{ts(0, 1)[0][1]}, {ts(1, 2)[0][1]}, {ts(2, 3)[0][1]}}
	n.receive("some rows", 0, m, slices.Concat(begun(1), post(0, batches(s, want)...))...)
	n = &node{t, opened(0)}
	m = ask("(from t (get (count)))", scan())
	want = []api.Row{{whole(40), whole(0), whole(0), {}}}
	n.receive("a group", 0, m, slices.Concat(begun(1), post(0, batches(s, want)...))...)
}

func TestStartOfTwoShards(t *testing.T) { // 16.2
	n := &node{t, opened(7)}
	m := ask(joined, join(shard("t", 0), shard("u", 0)))
	var want []api.Row
	for i := range 9 {
		want = append(want, api.Row{ts(i, i+1)[0][1], us(i, i+1)[0][1]})
	}
	n.receive("side by side", 0, m, slices.Concat(begun(5), post(0, batches(link(5, -1), want)...))...)
	n.has("side by side", task(m, 7, nil, out(link(5, -1), want, 0)))
}

func TestStartSendsToFragments(t *testing.T) { // 16.2: where a stream goes
	n := &node{t, opened(7)}
	to := []int{4, 1, -1, 6, 7, 8, 9, 63, -2, math.MaxInt, math.MinInt, 0}
	m := ask(joined, spread(to...))
	want := begun(3)
	var outs []api.Out
	for _, frag := range to {
		outs = append(outs, out(link(3, frag), us(0, 9), 0))
		if at, ok := map[int]int{4: 7, 1: me, -1: 0, 6: 0, 0: 1}[frag]; ok { // the others are nowhere
			want = append(want, post(at, batches(link(3, frag), us(0, 9))...)...)
		}
	}
	n.receive("to all", 0, m, want...)
	n.has("to all", task(m, 7, nil, outs...))
	m = ask(joined, spread(4))
	m.Nodes = nil
	n = &node{t, opened(7)}
	n.receive("nodes of none", 0, m, begun(3)...)
	n.has("nodes of none", task(m, 7, nil, out(link(3, 4), us(0, 9), 0)))
}

func TestStartSendsByHash(t *testing.T) { // 16.2: of each list that exec.Run answers a stream
	n := &node{t, opened(7)}
	m := ask(joined, spread(4, 2, 0))
	m.Frag.By = 0
	w, posts := worker.Receive(n.Worker, 0, m)
	n.became("by hash", w, posts, posts)
	if len(n.Tasks) != 1 || len(n.Tasks[0].Outs) != 3 || !n.Tasks[0].Ran {
		t.Fatal("the tasks are", n.Tasks)
	}
	var together []api.Row
	for i, o := range n.Tasks[0].Outs {
		if o.Stream != link(3, m.Frag.To[i]) {
			t.Error("a stream is", o.Stream)
		}
		together = append(together, slices.Concat(o.Batches...)...)
	}
	slices.SortFunc(together, func(a, b api.Row) int { return int(a[0].N - b[0].N) })
	if !alike(together, us(0, 9)) || len(n.Tasks[0].Outs[0].Batches[0]) == 9 {
		t.Error("sent is", n.Tasks[0].Outs)
	}
}

func TestStartOfOneListToSeveral(t *testing.T) { // 16.2: exec.Run answers one list, for the first place alone
	n := &node{t, opened(7)}
	m := ask(all, scan())
	m.Frag.Left, m.Frag.To = shard("t", 0), []int{4, 0}
	first, second := link(1, 4), link(1, 0)
	n.receive("two places", 0, m, slices.Concat(begun(1), post(7, batches(first, ts(0, 40))[:4]...), post(1, batches(second, nil)...))...)
	n.has("two places", task(m, 7, nil, out(first, ts(0, 40), 0), out(second, nil, 0)))
}

func TestStartThatIsNotTaken(t *testing.T) { // 16.2, 16.6
	w := idle()
	w.Over.Ids = []api.Qid{theirs(), {Boot: 9, N: 9}}
	n := &node{t, w}
	m := ask(all, scan())
	for _, from := range []int{1, me, 3, 7, 8, -1, math.MaxInt, math.MinInt} {
		n.ignores("from another node", from, m)
	}
	for _, node := range []int{0, 1, 3, 7, 8, -1, -me} {
		x := m
		x.Frag.Node = node
		n.ignores("another node's", 0, x)
	}
	for _, id := range []int{-1, 64, 65, math.MaxInt, math.MinInt} {
		x := m
		x.Frag.Id = id
		n.ignores("no fragment", 0, x)
	}
	n.ignores("a query that is over", 0, ofQuery(theirs(), m))
	n.ignores("a query that is over, of a greater attempt", 0, inAttempt(99, ofQuery(theirs(), m)))
	n.ignores("another query that is over", 0, ofQuery(api.Qid{Boot: 9, N: 9}, m))
	for _, a := range []int{attempt - 1, 0, -1, math.MinInt} {
		n.ignores("a smaller attempt", 0, inAttempt(a, m))
		x := inAttempt(a, m)
		x.Frag.Id = 5 // a fragment that is there in a greater one
		n.ignores("a smaller attempt", 0, x)
	}
	for _, id := range []int{0, 63} {
		x := inAttempt(attempt+1, m)
		x.Frag.Id = id
		want := begun(id)
		want[0].Msg.Stream.Attempt = attempt + 1
		got, posts := worker.Receive(n.Worker, 0, x)
		if !alike(posts[:1], want) || len(got.Tasks) != 1 {
			t.Errorf("the first and the last fragment: %v", posts)
		}
	}
}

func TestStartOfAGreaterAttempt(t *testing.T) { // 16.2
	mixed := idle()
	other := task(ofQuery(theirs(), ask(all, scan())), 14, nil)
	late := task(inAttempt(attempt-3, ask(all, scan())), 14, nil)
	mixed.Tasks = slices.Concat([]api.Task{late, other}, mixed.Tasks)
	n := &node{t, mixed}
	m := inAttempt(attempt+1, ask(all, scan()))
	s := link(1, -1)
	s.Attempt = attempt + 1
	started := begun(1)
	started[0].Msg.Stream.Attempt = attempt + 1
	n.receive("a greater one", 0, m, slices.Concat(started, post(0, batches(s, ts(0, 40))[:4]...))...)
	n.has("a greater one", other, task(m, 20, nil, out(s, ts(0, 40), 0)))
	n.ignores("the one before", 0, ask(all, scan()))
	n = &node{t, mixed}
	m = ask(all, scan())
	n.receive("the same attempt", 0, m, slices.Concat(begun(1), post(0, batches(link(1, -1), ts(0, 40))[:4]...))...)
	n.has("the same attempt", slices.Concat([]api.Task{other}, idle().Tasks, []api.Task{task(m, 20, nil, out(link(1, -1), ts(0, 40), 0))})...)
	lone := opened(20, late)
	n = &node{t, lone}
	m = inAttempt(attempt-3, m) // the only one that is there, once more
	started[0].Msg.Stream.Attempt = attempt - 3
	n.receive("the same fragment", 0, m, started...)
	late.Seen = 20
	n.has("the same fragment", late)
}

func TestStartTwice(t *testing.T) { // 16.2
	w := idle()
	other := task(ofQuery(theirs(), ask(all, api.Frag{Id: 5, Node: me, Left: shard("t", 2)})), 19, nil)
	old := task(inAttempt(attempt-1, ask(all, scan())), 14, nil)
	w.Tasks = append(w.Tasks, other, old)
	n := &node{t, w}
	m := ask(all, scan())
	m.Frag.Id, m.Frag.Left, m.Nodes, m.Bound = 5, shard("u", 7), nil, api.Bound{} // what it has else is no matter
	n.receive("twice", 0, m, begun(5)...)
	want := idle().Tasks
	want[0].Seen, want[1].Seen = 20, 20
	n.has("twice", want[0], want[1], other)
	for i := range 3 {
		n.tick("a tick", slices.Concat(beat(), post(1, ack(link(0, 5), 0)), post(0, batches(link(3, -1), ts(0, 40))[1:]...))...)
		n.receive("again", 0, m, begun(5)...)
		want[0].Seen, want[1].Seen = uint64(21+i), uint64(21+i)
		n.has("again", want[0], want[1], other)
	}
}

// beat is what a worker of these tests tells at a tick.
func beat() []api.Post { return post(0, api.Msg{Kind: api.MsgBeat, Boot: 6}) }

func TestStartWithAllTasks(t *testing.T) { // 16.2
	n := &node{t, opened(7, tasks(127)...)}
	m := ofQuery(theirs(), ask(all, scan()))
	s := api.Stream{Query: theirs(), Attempt: attempt, From: 1, To: -1}
	started := begun(1)
	started[0].Msg.Stream.Query = theirs()
	n.receive("the last one", 0, m, slices.Concat(started, post(0, batches(s, ts(0, 40))[:4]...))...)
	last := task(m, 7, nil, out(s, ts(0, 40), 0))
	n.has("the last one", slices.Concat(tasks(127), []api.Task{last})...)
	m.Frag.Id = 2
	n.ignores("one more", 0, m)
	n.ignores("one more, of a third query", 0, ofQuery(api.Qid{}, m))
	m.Frag.Id = 1
	n.receive("one that is there", 0, m, started...)
	m = inAttempt(attempt+1, m)
	started[0].Msg.Stream.Attempt, s.Attempt = attempt+1, attempt+1
	n.receive("in the place of another", 0, m, slices.Concat(started, post(0, batches(s, ts(0, 40))[:4]...))...)
	n.has("in the place of another", slices.Concat(tasks(127), []api.Task{task(m, 7, nil, out(s, ts(0, 40), 0))})...)
	m = inAttempt(attempt+1, ask(all, scan())) // of the query with 64 tasks in one attempt, and 63 in the next one
	n.receive("one that is there, and smaller ones", 0, m, api.Post{Msg: api.Msg{Kind: api.MsgStarted, Stream: api.Stream{Query: mine(), Attempt: attempt + 1, From: 1}}})
	if len(n.Tasks) != 64 {
		t.Error("there are", len(n.Tasks))
	}
}

func TestStartWaits(t *testing.T) { // 16.2: a Task whose shard is not there, or whose inputs have not come
	for name, f := range map[string]api.Frag{
		"no such shard":         {Id: 1, Node: me, Left: shard("t", 2)},
		"no such table":         {Id: 1, Node: me, Left: shard("x", 0)},
		"no such version":       {Id: 1, Node: me, Left: api.Src{Kind: api.SrcShard, Table: "t", Version: api.Version{Boot: 3, Load: 5}}},
		"no such right shard":   {Id: 1, Node: me, Left: shard("t", 0), Right: shard("u", 1)},
		"raw, no such table":    {Id: 1, Node: me, Left: shard("x", 0), Raw: true, By: -1, To: []int{0}},
		"raw, to nobody":        {Id: 1, Node: me, Left: shard("t", 0), Raw: true, By: -1},
		"raw, by no column":     {Id: 1, Node: me, Left: shard("t", 0), Raw: true, By: 2, To: []int{0}},
		"rows of another table": {Id: 1, Node: me, Left: shard("u", 0)},
	} {
		n := &node{t, opened(7)}
		m := ask(joined, f)
		n.receive(name, 0, m, begun(1)...)
		n.has(name, task(m, 7, nil))
		n.tick(name, beat()...)
		n.has(name, task(m, 7, nil))
	}
	n := &node{t, opened(7)}
	m := ask(joined, scan())
	m.Bound.Width++
	n.receive("a query that is none", 0, m, begun(1)...)
	n.has("a query that is none", task(m, 7, nil))
	m = ask(all, scan())
	m.Frag.Id, m.Catalog = 2, nil
	n.receive("no catalog", 0, m, begun(2)...)
}

func TestStartOfInputs(t *testing.T) { // 16.2: an In for each of Left's Frags, then of Right's, each number once
	ins := func(l ...int) (all []api.In) {
		for _, from := range l {
			all = append(all, api.In{Stream: link(from, 5)})
		}
		return all
	}
	many := make([]int, 64)
	more := make([]int, 64)
	for i := range 64 {
		many[i], more[i] = i, 164-i
	}
	for name, x := range map[string]struct {
		left, right api.Src
		want        []int
	}{
		"one":                         {sent(4), api.Src{}, []int{4}},
		"one of the right":            {shard("t", 0), sent(4), []int{4}},
		"some":                        {sent(4, 0), sent(2, 1), []int{4, 0, 2, 1}},
		"a number of both":            {sent(4, 0), sent(0, 2, 4), []int{4, 0, 2}},
		"a number twice":              {sent(4, 4, 0, 4), sent(2, 0, 2), []int{4, 0, 2}},
		"the coordinator":             {sent(-1), sent(-1), []int{-1}},
		"its own":                     {sent(5), sent(5), []int{5}},
		"odd ones":                    {sent(math.MaxInt, -9), sent(math.MinInt, 99), []int{math.MaxInt, -9, math.MinInt, 99}},
		"as many as may be":           {sent(many...), sent(more...), slices.Concat(many, more)},
		"of a source of another kind": {api.Src{Kind: api.SrcShard, Table: "t", Version: version(), Frags: []int{4}}, api.Src{Frags: []int{2}}, []int{4, 2}},
	} {
		n := &node{t, opened(7)}
		m := ask(joined, join(x.left, x.right))
		n.receive(name, 0, m, begun(5)...)
		n.is(name, opened(7, task(m, 7, ins(x.want...))))
	}
}

func TestStartOfOddSources(t *testing.T) { // 16.2: rows of no source, and of a source of no kind, are none
	for _, kind := range []api.SrcKind{api.SrcNone, api.SrcCount, 99, 255} {
		for name, f := range map[string]api.Frag{
			"left":  join(api.Src{Kind: kind, Table: "t", Version: version()}, shard("u", 0)),
			"right": join(shard("t", 0), api.Src{Kind: kind, Table: "u", Version: version()}),
			"both":  join(api.Src{Kind: kind}, api.Src{Kind: kind}),
			"none":  join(sent(), sent()),
		} {
			n := &node{t, opened(7)}
			m := ask(joined, f)
			n.receive(name, 0, m, slices.Concat(begun(5), post(0, batches(link(5, -1), nil)...))...)
			n.has(name, task(m, 7, nil, out(link(5, -1), nil, 0)))
		}
	}
}

func TestStartOfTooMuch(t *testing.T) { // 16.2, 16.5: with a stream that would be too long it is not run
	equal := func(n int, last api.Value) (l []api.Row) {
		for range n {
			l = append(l, api.Row{whole(1), last})
		}
		return l
	}
	for name, x := range map[string]struct {
		left, right int
		runs        bool
	}{
		"as many as may be": {64, 64, true},
		"one more":          {241, 17, false}, // 4097 rows
		"far more":          {300, 300, false},
	} {
		w := opened(7)
		for _, f := range []api.File{file("t", 8, equal(x.left, api.Value{})), file("u", 8, equal(x.right, whole(2)))} {
			w, _ = worker.Receive(w, 0, install(f))
		}
		n := &node{t, w}
		m := ask(joined, join(shard("t", 8), shard("u", 8)))
		rows := slices.Repeat([]api.Row{{{}, whole(2)}}, x.left*x.right)
		if x.runs {
			n.receive(name, 0, m, slices.Concat(begun(5), post(0, batches(link(5, -1), rows)[:4]...))...)
			n.has(name, task(m, 7, nil, out(link(5, -1), rows, 0)))
			continue
		}
		n.receive(name, 0, m, begun(5)...)
		n.has(name, task(m, 7, nil))
		n.tick(name, beat()...)
	}
}

func TestStartLooksAtTheWholeFragment(t *testing.T) { // 16.2: what is kept of a Start is all of it
	m := ask("(from t (join u t.k u.k) (where (> n 3)) (group s) (get s (count) (sum n)))", join(sent(0, 2), sent(4)))
	m.Frag.Raw, m.Frag.By, m.Frag.To = true, 1, []int{6, -1}
	if wire.Check(m) != api.OK {
		t.Fatal("it is no message")
	}
	n := &node{t, opened(most)}
	n.receive("all of it", 0, m, begun(5)...)
	if len(n.Tasks) != 1 || !alike(n.Tasks[0].Frag, m.Frag) || !alike(n.Tasks[0].Bound, m.Bound) || !alike(n.Tasks[0].Catalog, m.Catalog) || !alike(n.Tasks[0].Nodes, m.Nodes) || n.Tasks[0].Seen != most {
		t.Error(fmt.Sprint("the tasks are ", n.Tasks))
	}
}
