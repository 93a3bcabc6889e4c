package worker_test

import (
	"math/rand/v2"
	"slices"
	"testing"

	"potsherd/api"
	"potsherd/exec"
	"potsherd/files"
	"potsherd/rpc"
	"potsherd/stream"
	"potsherd/wire"
	"potsherd/worker"
)

func pick[T any](r *rand.Rand, l ...T) T { return l[r.IntN(len(l))] }

// The chapter's words once more: all that happens makes new lists of Tasks; whatever is said of one is asked anew.

type second struct {
	api.Worker
	posts []api.Post
}

func secondOf(w api.Worker) *second { return &second{Worker: tidy(w).(api.Worker)} }

func (s *second) post(to int, l ...api.Msg) {
	if to >= 0 {
		s.posts = append(s.posts, post(to, l...)...)
	}
}

// nodeOf is the node of a fragment of a query; below 0, if it is nowhere.
func nodeOf(t api.Task, frag int) int {
	switch {
	case frag == -1:
		return 0
	case frag >= 0 && frag < len(t.Nodes) && t.Nodes[frag] >= 0 && t.Nodes[frag] <= 7:
		return t.Nodes[frag]
	}
	return -1
}

func (s *second) underWay(t api.Task) {
	for _, o := range t.Outs {
		l, _ := stream.Send(o)
		s.post(nodeOf(t, o.Stream.To), l...)
	}
}

// rows are those of a source, and whether it is there.
func (s *second) rows(t api.Task, src api.Src) (rows []api.Row, ok bool) {
	if src.Kind == api.SrcShard {
		f, ok := files.Find(s.Disk, src.Table, src.Version, src.Shard)
		return f.Rows, ok
	}
	if src.Kind == api.SrcFrags {
		at := func(i api.In) int { return slices.Index(src.Frags, i.Stream.From) }
		ins := slices.DeleteFunc(slices.Clone(t.Ins), func(i api.In) bool { return at(i) < 0 })
		slices.SortStableFunc(ins, func(a, b api.In) int { return at(a) - at(b) })
		for _, i := range ins {
			rows = append(rows, i.Rows...)
		}
	}
	return rows, true
}

// run is t as it is behind a run, and whether there was one.
func (s *second) run(t api.Task) (api.Task, bool) {
	left, ok := s.rows(t, t.Frag.Left)
	right, ok1 := s.rows(t, t.Frag.Right)
	for _, i := range t.Ins {
		ok = ok && i.Done
	}
	if t.Ran || !ok || !ok1 {
		return t, false
	}
	lists, why := exec.Run(t.Bound, t.Catalog, t.Frag, left, right)
	if why != api.OK {
		return t, false
	}
	to := t.Frag.To
	if len(to) == 0 {
		to = []int{-1}
	}
	lists = append(lists, make([][]api.Row, 64)...)
	t.Outs, t.Ran = nil, true
	for i, frag := range to {
		o, why := stream.Cut(api.Stream{Query: t.Query, Attempt: t.Attempt, From: t.Frag.Id, To: frag}, lists[i])
		if why != api.OK {
			panic("these tests have no such streams")
		}
		t.Outs = append(t.Outs, o)
	}
	return t, true
}

// each makes a new list of what becomes of each Task; one that is told not to stay is no more.
func (s *second) each(becomes func(t api.Task) (api.Task, bool)) {
	var l []api.Task
	for _, t := range s.Tasks {
		if next, stays := becomes(t); stays {
			l = append(l, next)
		}
	}
	s.Tasks = l
}

func (s *second) seen(q api.Qid) {
	s.each(func(t api.Task) (api.Task, bool) {
		if t.Query == q {
			t.Seen = s.Now
		}
		return t, true
	})
}

func (s *second) start(from int, m api.Msg) {
	q, a, id := m.Stream.Query, m.Stream.Attempt, m.Frag.Id
	greatest, there := a, false
	for _, t := range s.Tasks {
		if t.Query == q {
			greatest = max(greatest, t.Attempt)
			there = there || t.Attempt == a && t.Frag.Id == id
		}
	}
	if from != 0 || m.Frag.Node != s.Id || id < 0 || id > 63 || rpc.Has(s.Over, q) || greatest != a {
		return
	}
	s.each(func(t api.Task) (api.Task, bool) { return t, t.Query != q || t.Attempt >= a })
	started := api.Msg{Kind: api.MsgStarted, Stream: api.Stream{Query: q, Attempt: a, From: id}}
	if there {
		s.post(0, started)
		s.seen(q)
		return
	}
	if len(s.Tasks) == 128 {
		return
	}
	s.post(0, started)
	t := api.Task{Query: q, Attempt: a, Bound: m.Bound, Catalog: m.Catalog, Frag: m.Frag, Nodes: m.Nodes, Seen: s.Now}
	numbers := append(slices.Clone(m.Frag.Left.Frags), m.Frag.Right.Frags...)
	for i, n := range numbers {
		if slices.Index(numbers, n) == i {
			t.Ins = append(t.Ins, api.In{Stream: api.Stream{Query: q, Attempt: a, From: n, To: id}})
		}
	}
	t, _ = s.run(t)
	s.underWay(t)
	s.Tasks = append(s.Tasks, t)
}

func (s *second) batch(m api.Msg) {
	took := false
	isIts := func(t api.Task) bool {
		return t.Query == m.Stream.Query && t.Attempt == m.Stream.Attempt && t.Frag.Id == m.Stream.To
	}
	s.each(func(t api.Task) (api.Task, bool) {
		for i, in := range t.Ins {
			if !isIts(t) || in.Stream != m.Stream || took {
				continue
			}
			next, why := stream.Take(in, m)
			if took = why == api.OK || why == api.ErrTwice; took {
				t.Ins = slices.Concat(t.Ins[:i], []api.In{next}, t.Ins[i+1:])
				s.post(nodeOf(t, m.Stream.From), stream.Ack(next))
			}
			break
		}
		return t, true
	})
	if !took {
		return
	}
	s.seen(m.Stream.Query)
	s.each(func(t api.Task) (api.Task, bool) {
		ran := false
		if isIts(t) {
			t, ran = s.run(t)
		}
		if ran {
			s.underWay(t)
		}
		return t, true
	})
}

func (s *second) ack(m api.Msg) {
	found := false
	s.each(func(t api.Task) (api.Task, bool) {
		for i, o := range t.Outs {
			if t.Query != m.Stream.Query || t.Attempt != m.Stream.Attempt || t.Frag.Id != m.Stream.From || o.Stream != m.Stream {
				continue
			}
			found = true
			next := stream.Acked(o, m.Stream, m.Seq)
			t.Outs = slices.Concat(t.Outs[:i], []api.Out{next}, t.Outs[i+1:])
			if next.Acked > o.Acked {
				l, _ := stream.Send(next)
				s.post(nodeOf(t, m.Stream.To), l...)
			}
			break
		}
		return t, true
	})
	if found {
		s.seen(m.Stream.Query)
	}
}

func (s *second) receive(from int, m api.Msg) {
	if s.Disk.Down || wire.Check(m) != api.OK {
		return
	}
	switch m.Kind {
	case api.MsgStart:
		s.start(from, m)
	case api.MsgBatch:
		s.batch(m)
	case api.MsgAck:
		s.ack(m)
	case api.MsgClean:
		if from == 0 {
			s.each(func(t api.Task) (api.Task, bool) { return t, t.Query != m.Stream.Query })
			s.Over, _ = rpc.Put(s.Over, m.Stream.Query)
		}
	case api.MsgInstall:
		if from == 0 {
			var why api.Errno
			if s.Disk, why = files.Install(s.Disk, m.File); why == api.OK {
				s.post(0, installed(m.File))
			}
		}
	}
}

func (s *second) tick() {
	if s.Disk.Down {
		return
	}
	if s.Now+1 > 0 {
		s.Now++
	}
	s.each(func(t api.Task) (api.Task, bool) { return t, s.Now-t.Seen <= 7 })
	s.post(0, api.Msg{Kind: api.MsgBeat, Boot: s.Boot})
	s.each(func(t api.Task) (api.Task, bool) {
		for _, i := range t.Ins {
			if !i.Done {
				s.post(nodeOf(t, i.Stream.From), stream.Ack(i))
			}
		}
		t, _ = s.run(t)
		s.underWay(t)
		return t, true
	})
}

// Random workers and messages, about few queries, attempts and fragments, so that they often are of each other.

func randomQid(r *rand.Rand) api.Qid { return pick(r, mine(), mine(), theirs(), api.Qid{Boot: 2}) }

func randomFrag(r *rand.Rand) (string, api.Frag) {
	f := api.Frag{Id: r.IntN(5), Node: me}
	query := pick(r, joined, joined, all, "(from t (get (count) (sum k)))", "(from t (join u t.k u.k) (group s) (get s (max n)))")
	list := func() []int {
		return pick(r, []int{0}, []int{1, 0}, []int{2}, []int{3, -1, 3}, []int{0, 7}, nil)
	}
	shardT, shardU := shard("t", r.IntN(4)), shard("u", r.IntN(3))
	switch r.IntN(6) {
	case 0:
		f.Left = shardT
	case 1:
		f.Left, f.Raw, f.By, f.To = pick(r, shardT, shardU), true, pick(r, -1, -1, 0, 1, 2), pick(r, list(), []int{4, 2, 6})
		query = joined
	case 2:
		f.Left, f.Right = shardT, shardU
	case 3:
		f.Left, f.Right = shardT, sent(list()...)
	case 4:
		f.Left, f.Right = sent(list()...), sent(list()...)
	default:
		f.Left, f.Right = sent(list()...), pick(r, shardU, api.Src{}, api.Src{Kind: 9, Frags: list()})
		f.To = pick(r, nil, nil, []int{2, 4})
	}
	return query, f
}

func randomStart(r *rand.Rand) api.Msg {
	m := ask(randomFrag(r))
	m.Stream.Query, m.Stream.Attempt = randomQid(r), pick(r, 1, 2, 2, 2, 3)
	m.Nodes = pick(r, nodes(), nodes(), []int{3}, nil, []int{9, 1, -4, 5, 6, 7, 0})
	switch r.IntN(40) {
	case 0:
		m.Frag.Node = pick(r, 0, 1, 3, -me)
	case 1:
		m.Frag.Id = pick(r, -1, 64, 63)
	case 2:
		m.Bound.Width++
	case 3:
		m.Nodes = make([]int, 65)
	case 4:
		m.Catalog = nil
	}
	return m
}

func randomRows(r *rand.Rand, most int) []api.Row {
	if n := r.IntN(most); r.IntN(2) == 0 {
		return ts(n/2, n)
	} else {
		return us(n/3, n)
	}
}

func randomIn(r *rand.Rand, s api.Stream) api.In {
	l := batches(s, randomRows(r, 60))
	if r.IntN(2) == 0 {
		return received(s, l...)
	}
	r.Shuffle(len(l), func(i, k int) { l[i], l[k] = l[k], l[i] })
	return received(s, l[:r.IntN(len(l)+1)]...)
}

func randomTask(r *rand.Rand, now uint64) api.Task {
	t := task(randomStart(r), now-min(now, uint64(r.IntN(10))), nil)
	t.Frag.Node, t.Frag.Id = me, t.Frag.Id&7
	t.Nodes = t.Nodes[:min(len(t.Nodes), 64)]
	for _, from := range append(slices.Clone(t.Frag.Left.Frags), t.Frag.Right.Frags...) {
		t.Ins = append(t.Ins, randomIn(r, api.Stream{Query: t.Query, Attempt: t.Attempt, From: from, To: t.Frag.Id}))
	}
	if r.IntN(3) == 0 || r.IntN(9) == 0 {
		t.Ran = true
		for _, to := range append(slices.Clone(t.Frag.To), -1) {
			o := out(api.Stream{Query: t.Query, Attempt: t.Attempt, From: t.Frag.Id, To: to}, randomRows(r, 90), 0)
			o.Acked = uint64(r.IntN(len(o.Batches) + 1))
			t.Outs = append(t.Outs, o)
		}
	}
	t.Ran = t.Ran != (r.IntN(20) == 0)
	return t
}

func randomWorker(r *rand.Rand) api.Worker {
	w := opened(pick(r, 0, 3, 20, 20, 20, most-2, most))
	for range r.IntN(8) {
		t := randomTask(r, w.Now)
		isIt := func(x api.Task) bool {
			return x.Query == t.Query && x.Attempt == t.Attempt && x.Frag.Id == t.Frag.Id
		}
		if !slices.ContainsFunc(w.Tasks, isIt) {
			w.Tasks = append(w.Tasks, t)
		}
	}
	if r.IntN(20) == 0 {
		for i := range 128 - len(w.Tasks) - r.IntN(2) {
			w.Tasks = append(w.Tasks, api.Task{Query: api.Qid{Boot: 9, N: uint64(i)}, Frag: api.Frag{Node: me}, Seen: w.Now})
		}
	}
	w.Over = ids(r.IntN(17))
	w.Over.Ids = slices.DeleteFunc(w.Over.Ids, func(q api.Qid) bool { return q == mine() && r.IntN(4) > 0 })
	w.Disk.Fuse = pick(r, -1, -1, -1, r.IntN(5))
	return w
}

// randomStream is one of w's streams, or of none.
func randomStream(r *rand.Rand, w api.Worker, ofIn bool) api.Stream {
	s := api.Stream{Query: randomQid(r), Attempt: 1 + r.IntN(3), From: r.IntN(5), To: r.IntN(5)}
	if len(w.Tasks) == 0 || r.IntN(6) == 0 {
		return s
	}
	t := w.Tasks[r.IntN(min(len(w.Tasks), 8))]
	if ofIn && len(t.Ins) > 0 {
		s = pick(r, t.Ins...).Stream
	} else if !ofIn && len(t.Outs) > 0 {
		s = pick(r, t.Outs...).Stream
	}
	if r.IntN(8) == 0 {
		s.Attempt--
	}
	return s
}

func randomMsg(r *rand.Rand, w api.Worker) api.Msg {
	switch r.IntN(12) {
	case 0, 1, 2:
		return randomStart(r)
	case 3, 4, 5, 6:
		s := randomStream(r, w, true)
		l := batches(s, pick(r, us(0, 30), us(3, 6), nil, us(0, 50), randomRows(r, 40)))
		m := pick(r, l...)
		if r.IntN(20) == 0 {
			m.Seq = pick(r, 3, 4, 8, 511, 512, most)
		}
		return m
	case 7, 8, 9:
		return ack(randomStream(r, w, false), uint64(pick(r, 0, 1, 2, 3, 4, 5, 8, 12, 99)))
	case 10:
		return pick(r, install(file("t", 2, ts(0, 30))), install(file("u", 1, us(5, 20))), install(file("t", 0, ts(0, 40))), install(kept()[2]), install(api.File{Rows: make([]api.Row, 513)}))
	}
	return pick(r, clean(randomQid(r)), clean(api.Qid{Boot: 1, N: uint64(r.IntN(20))}), api.Msg{}, messages()[pick(r, "Beat", "Started", "Installed", "Claims")])
}

// tally counts what happens, so that nothing stays unseen.
func tally(seen map[string]int, before, after api.Worker, posts []api.Post) {
	seen["tasks"] += len(after.Tasks)
	for _, p := range posts {
		seen[map[api.MsgKind]string{api.MsgBeat: "Beat", api.MsgStarted: "Started", api.MsgBatch: "Batch", api.MsgAck: "Ack", api.MsgInstalled: "Installed"}[p.Msg.Kind]]++
	}
	ran := func(w api.Worker) (n int) {
		for _, t := range w.Tasks {
			if t.Ran {
				n++
			}
		}
		return n
	}
	if ran(after) > ran(before) {
		seen["run"]++
	}
	if len(after.Tasks) < len(before.Tasks) {
		seen["gone"]++
	}
	if after.Disk.Down {
		seen["down"]++
	}
	if len(after.Tasks) == 128 {
		seen["full"]++
	}
}

func TestAsTheDocumentSays(t *testing.T) { // 16.2, 16.3, 16.5, 16.8
	r := rand.New(rand.NewPCG(16, 1))
	seen := make(map[string]int)
	for range 700 {
		w := randomWorker(r)
		if worker.Check(w) != api.OK {
			t.Fatalf("a worker is not right: %v", w)
		}
		for range 12 {
			s := secondOf(w)
			var next api.Worker
			var posts []api.Post
			if r.IntN(6) == 0 {
				next, posts = worker.Tick(w)
				s.tick()
			} else {
				from, m := pick(r, 0, 0, 0, 0, 0, 1, 3, -1), randomMsg(r, w)
				next, posts = worker.Receive(w, from, m)
				s.receive(from, m)
			}
			if !alike(posts, s.posts) || !alike(next, s.Worker) {
				t.Fatalf("sent: %s; the worker: %s", differ(posts, s.posts), differ(next, s.Worker))
			}
			if why := worker.Check(next); why != api.OK {
				t.Fatalf("%v is not right", next)
			}
			for _, x := range next.Tasks {
				if slices.ContainsFunc(x.Ins, func(i api.In) bool { return len(i.Held) > 4 }) {
					t.Fatal("too many are held:", x.Ins)
				}
			}
			tally(seen, w, next, posts)
			w = next
		}
	}
	for _, what := range []string{"Beat", "Started", "Batch", "Ack", "Installed", "run", "gone", "down", "full"} {
		if seen[what] < 50 {
			t.Errorf("%s was seen %d times", what, seen[what])
		}
	}
}
