package coord_test

import (
	"fmt"
	"math/rand/v2"
	"slices"
	"testing"

	"potsherd/api"
	"potsherd/bind"
	"potsherd/coord"
	"potsherd/exec"
	"potsherd/files"
	"potsherd/lease"
	"potsherd/parse"
	"potsherd/place"
	"potsherd/plan"
	"potsherd/publish"
	"potsherd/stream"
	"potsherd/wire"
)

func pick[T any](r *rand.Rand, l ...T) T { return l[r.IntN(len(l))] }

// The chapter's words once more: nothing stops half-way here, each thing tells its error; new lists are made of what becomes of each.

type second struct {
	api.Coord
	posts []api.Post
}

func secondOf(c api.Coord) *second { return &second{Coord: tidy(c).(api.Coord)} }

func (s *second) tell(n uint64, why api.Errno) { s.Answers = append(s.Answers, failed(n, why)) }

func (s *second) alive() []bool {
	l, _ := lease.Alive(s.Leases, s.Now)
	return l
}

// over is what becomes of a run that is answered.
func (s *second) over(r api.Run) {
	if len(r.Frags) > 0 {
		s.posts = append(s.posts, cleans(s.Coord, r.N)...)
	}
}

// begin is the run in its next attempt, or the answer.
func (s *second) begin(r api.Run) (api.Run, api.Errno) {
	if r.Attempt == 4 {
		return r, api.ErrUnavailable
	}
	frags, why := plan.Make(r.Bound, s.Layout, r.Claims, s.alive())
	if why != api.OK {
		return r, why
	}
	next := api.Run{N: r.N, Bound: r.Bound, Claims: r.Claims, Attempt: r.Attempt + 1, Frags: frags}
	for _, f := range frags {
		next.Boots = append(next.Boots, s.Leases.Boots[f.Node])
		if len(f.To) == 0 {
			next.Ins = append(next.Ins, api.In{Stream: link(s.Coord, next, f.Id)})
		}
	}
	s.posts = append(s.posts, starts(s.Coord, next)...)
	return next, api.OK
}

func (s *second) number() uint64 {
	if s.Last+1 == 0 {
		return 0
	}
	s.Last++
	return s.Last
}

func (s *second) ask(query string) uint64 {
	n := s.number()
	if n == 0 {
		return 0
	}
	q, why, _ := parse.Parse(query)
	var b api.Bound
	if why == api.OK {
		b, why = bind.Bind(q, plan.Catalog(s.Claims))
	}
	if why == api.OK && len(s.Runs) == 4 {
		why = api.ErrFull
	}
	var r api.Run
	if why == api.OK {
		r, why = s.begin(api.Run{N: n, Bound: b, Claims: s.Claims})
	}
	if why != api.OK {
		s.tell(n, why)
		return n
	}
	s.Runs = append(s.Runs, r)
	return n
}

func (s *second) load(t api.Table) uint64 {
	n := s.number()
	if n == 0 {
		return 0
	}
	isThere := false
	for _, c := range s.Claims {
		isThere = isThere || c.Table == t.Name
	}
	x, why := publish.Begin(s.Layout, n, t, api.Version{Boot: s.Boot, Load: n})
	if len(s.Claims) == 8 && !isThere {
		why = api.ErrMany
	}
	if len(s.Loads) == 4 {
		why = api.ErrFull
	}
	if why != api.OK {
		s.tell(n, why)
		return n
	}
	s.Loads = append(s.Loads, x)
	s.posts = append(s.posts, publish.Wants(s.Layout, x)...)
	return n
}

// among is the claims with one in the place of its table's, or behind all.
func among(l []api.Claim, x api.Claim) (all []api.Claim) {
	isThere := false
	for _, c := range l {
		if c.Table == x.Table {
			c, isThere = x, true
		}
		all = append(all, c)
	}
	if !isThere {
		all = append(all, x)
	}
	return all
}

func (s *second) settle() {
	var left []api.Load
	for _, x := range s.Loads {
		state := publish.State(s.Layout, x, s.alive())
		switch {
		case s.Disk.Down || state == api.LoadWaits:
			left = append(left, x)
		case state == api.LoadLost:
			s.tell(x.N, api.ErrUnavailable)
		default:
			l := among(s.Claims, publish.Claim(s.Layout, x))
			if len(l) > 8 {
				s.tell(x.N, api.ErrMany)
				continue
			}
			d, why := files.Publish(s.Disk, l)
			if s.Disk = d; d.Down {
				left = append(left, x)
				continue
			}
			if why == api.OK {
				s.Claims = l
			}
			s.tell(x.N, why)
		}
	}
	s.Loads = left
}

func (s *second) batch(m api.Msg) {
	for at, r := range s.Runs {
		if qid(s.Coord, r.N) != m.Stream.Query || r.Attempt != m.Stream.Attempt {
			continue
		}
		for i, in := range r.Ins {
			if in.Stream == m.Stream {
				s.taken(at, i, m)
				return
			}
		}
	}
}

func (s *second) taken(at, i int, m api.Msg) {
	r := s.Runs[at]
	next, why := stream.Take(r.Ins[i], m)
	if why != api.OK && why != api.ErrTwice {
		return
	}
	r.Ins = slices.Concat(r.Ins[:i], []api.In{next}, r.Ins[i+1:])
	s.Runs = slices.Concat(s.Runs[:at], []api.Run{r}, s.Runs[at+1:])
	for id, f := range r.Frags {
		if id == m.Stream.From {
			s.posts = append(s.posts, post(f.Node, stream.Ack(next))...)
		}
	}
	var rows []api.Row
	for _, in := range r.Ins {
		if !in.Done {
			return
		}
		rows = append(rows, in.Rows...)
	}
	answer, why := exec.Finish(r.Bound, plan.Catalog(r.Claims), rows)
	a := failed(r.N, why)
	if why == api.OK {
		a.Names, a.Rows = r.Bound.Names, answer
	}
	s.Answers = append(s.Answers, a)
	s.Runs = slices.Concat(s.Runs[:at], s.Runs[at+1:])
	s.over(r)
}

func (s *second) receive(from int, m api.Msg) {
	if s.Disk.Down || wire.Check(m) != api.OK {
		return
	}
	switch m.Kind {
	case api.MsgBeat:
		if l, _, why := lease.Beat(s.Leases, from, m.Boot, s.Now); why == api.OK {
			s.Leases = l
		}
	case api.MsgInstalled:
		var l []api.Load
		for _, x := range s.Loads {
			l = append(l, publish.Installed(s.Layout, x, from, m))
		}
		s.Loads = l
		s.settle()
	case api.MsgBatch:
		s.batch(m)
	}
}

func (s *second) tick() {
	if s.Disk.Down {
		return
	}
	if s.Now+1 > 0 {
		s.Now++
	}
	runs, alive := s.Runs, s.alive()
	s.Runs = nil
	for _, r := range runs {
		isWhole := true
		for i, f := range r.Frags {
			isWhole = isWhole && alive[f.Node] && s.Leases.Boots[f.Node] == r.Boots[i]
		}
		if !isWhole {
			next, why := s.begin(r)
			if why != api.OK {
				s.tell(r.N, why)
				s.over(r)
				continue
			}
			s.Runs = append(s.Runs, next)
			continue
		}
		s.posts = append(s.posts, starts(s.Coord, r)...)
		for _, in := range r.Ins {
			if from := in.Stream.From; !in.Done && from >= 0 && from < len(r.Frags) {
				s.posts = append(s.posts, post(r.Frags[from].Node, stream.Ack(in))...)
			}
		}
		s.Runs = append(s.Runs, r)
	}
	s.settle()
	for _, x := range s.Loads {
		if !s.Disk.Down {
			s.posts = append(s.posts, publish.Wants(s.Layout, x)...)
		}
	}
}

// Random coordinators and what happens to them, about few numbers, so that they often are of each other.

var queries = []string{all, counted, joined, shuffled, elsewhere, "(from t (where (> k 3)) (group s) (get s (max k)))", "(from t0)", "(from t1 (join u t1.k u.k))"}

func randomClaim(r *rand.Rand, l api.Layout, name string) api.Claim {
	c := claim(name, api.Version{Boot: uint64(r.IntN(3)), Load: uint64(r.IntN(9))})
	for range l.Shards {
		var owners []int
		for w := 1; w < l.Nodes; w++ {
			if r.IntN(3) > 0 {
				owners = append(owners, w)
			}
		}
		if len(owners) == 0 {
			owners = []int{1 + r.IntN(l.Nodes-1)}
		}
		c.Owners = append(c.Owners, owners)
	}
	return c
}

func randomTable(r *rand.Rand) api.Table {
	name := pick(r, "t", "u", "t0", "t3", "v", "w", "x")
	t := table(name, nil)
	for i := range r.IntN(20) {
		t.Rows = append(t.Rows, api.Row{pick(r, api.Value{}, whole(i), whole(7)), {}})
	}
	switch r.IntN(12) {
	case 0:
		t.Name = ""
	case 1:
		t.Rows = slices.Repeat([]api.Row{{{}, {}}}, 65)
	}
	return t
}

func randomRun(r *rand.Rand, c api.Coord, n uint64) (api.Run, bool) {
	q, _, _ := parse.Parse(pick(r, queries...))
	b, why := bind.Bind(q, plan.Catalog(c.Claims))
	if why != api.OK {
		return api.Run{}, false
	}
	alive := make([]bool, c.Layout.Nodes)
	for i := range alive {
		alive[i] = r.IntN(8) > 0
	}
	frags, why := plan.Make(b, c.Layout, c.Claims, alive)
	if why != api.OK {
		return api.Run{}, false
	}
	x := api.Run{N: n, Bound: b, Claims: c.Claims, Attempt: 1 + r.IntN(4), Frags: frags}
	isNearlyOver := r.IntN(2) == 0
	for _, f := range frags {
		x.Boots = append(x.Boots, c.Leases.Boots[f.Node])
		if len(f.To) > 0 {
			continue
		}
		in := randomIn(r, link(c, x, f.Id), b)
		for isNearlyOver && !in.Done && len(x.Ins) > 0 {
			in = randomIn(r, in.Stream, b)
		}
		x.Ins = append(x.Ins, in)
	}
	switch r.IntN(20) {
	case 0:
		x.Boots[r.IntN(len(x.Boots))]++
	case 1:
		x.Ins[0].Stream.From = pick(r, -1, len(frags), 1<<40)
	case 2:
		x.Frags, x.Boots = nil, nil
	}
	return x, true
}

// rowsFor are such as fragments of b send; now and then they are none.
func rowsFor(r *rand.Rand, b api.Bound) (l []api.Row) {
	group := api.Row{whole(2), whole(0), whole(3), {}}
	for i := range r.IntN(12) {
		var row api.Row
		for _, k := range b.Group {
			row = append(row, map[int]api.Value{0: whole(i % 3), 1: text("x")}[k])
		}
		for _, item := range b.Items {
			switch {
			case b.Grouped && item.Agg == api.AggCount:
				row = append(row, whole(2), whole(0), whole(0), api.Value{})
			case b.Grouped && item.Agg == api.AggSum:
				row = append(row, group...)
			case b.Grouped && item.Agg == api.AggMax:
				row = append(row, whole(1), whole(0), whole(0), whole(i))
			case b.Grouped:
				row = append(row, whole(0), whole(0), whole(0), api.Value{})
			default:
				row = append(row, pick(r, api.Value{}, whole(i)))
			}
		}
		for i, k := range b.Kinds {
			if !b.Grouped && k == api.KindText {
				row[i] = text("y")
			}
		}
		l = append(l, row)
	}
	if r.IntN(12) == 0 {
		return ts(0, 5)
	}
	return l
}

func randomIn(r *rand.Rand, s api.Stream, b api.Bound) api.In {
	l := batches(s, rowsFor(r, b))
	if r.IntN(2) == 0 {
		return in(s, l...)
	}
	r.Shuffle(len(l), func(i, k int) { l[i], l[k] = l[k], l[i] })
	return in(s, l[:r.IntN(len(l)+1)]...)
}

func randomLoad(r *rand.Rand, c api.Coord, n uint64) (api.Load, bool) {
	x, why := publish.Begin(c.Layout, n, randomTable(r), api.Version{Boot: c.Boot, Load: n})
	if why != api.OK {
		return x, false
	}
	few := r.IntN(4)
	for s := range x.Acks {
		owners, _ := place.Owners(c.Layout, s)
		x.Acks[s] = slices.DeleteFunc(owners, func(int) bool { return r.IntN(4) < few })
	}
	return x, true
}

func randomCoord(r *rand.Rand) api.Coord {
	l := pick(r, wide(), wide(), api.Layout{Nodes: 2, Shards: 1, Replicas: 1}, api.Layout{Nodes: 4, Shards: 1, Replicas: 2}, api.Layout{Nodes: 8, Shards: 8, Replicas: 3}, api.Layout{Nodes: 3, Shards: 2, Replicas: 2})
	c := api.Coord{Layout: l, Boot: uint64(r.IntN(4)), Now: pick(r, 0, 20, 20, 20, most-3, most), Last: pick(r, 40, 40, 40, most-2)}
	for i := range pick(r, 0, 2, 3, 5, 7, 8) {
		c.Claims = append(c.Claims, randomClaim(r, l, pick(r, "t", "u", fmt.Sprint("t", i))))
		if plan.Check(l, c.Claims) != api.OK {
			c.Claims = c.Claims[:len(c.Claims)-1]
		}
	}
	c.Disk = kept(c.Claims)
	c.Disk.Fuse = pick(r, -1, -1, -1, r.IntN(8))
	if r.IntN(15) == 0 {
		c.Disk.Files = []api.DiskFile{{Name: "full", Data: big, Synced: len(big)}}
	}
	for range l.Nodes {
		c.Leases.Boots = append(c.Leases.Boots, uint64(pick(r, 0, 1, 1, 1, 2, 2, 3)))
		c.Leases.Seen = append(c.Leases.Seen, c.Now-min(c.Now, uint64(pick(r, 0, 0, 1, 2, 3, 5, 7, 9))))
	}
	for i := range pick(r, 0, 1, 2, 3, 4, 4) {
		if x, ok := randomRun(r, c, uint64(20+i)); ok {
			c.Runs = append(c.Runs, x)
		}
	}
	for i := range pick(r, 0, 1, 2, 4) {
		if x, ok := randomLoad(r, c, uint64(30+i)); ok {
			c.Loads = append(c.Loads, x)
		}
	}
	return c
}

// big leaves next to no room on a disk.
var big = string(make([]byte, 1<<20-10))

func randomMsg(r *rand.Rand, c api.Coord) api.Msg {
	switch n := r.IntN(16); {
	case n < 7 && len(c.Runs) > 0:
		x := pick(r, c.Runs...)
		if len(x.Ins) == 0 {
			return beat(1)
		}
		i := pick(r, x.Ins...)
		for range 3 { // rather one that has not all come
			if i.Done {
				i = pick(r, x.Ins...)
			}
		}
		m := pick(r, batches(i.Stream, rowsFor(r, x.Bound))...)
		if r.IntN(3) > 0 {
			m.Seq, m.Last = i.Next, true
		}
		switch r.IntN(25) {
		case 0:
			m.Stream.Attempt--
		case 1:
			m.Stream.Query.N++
		case 2:
			m.Stream.From++
		case 3:
			m.Seq = pick(r, 3, 4, 511, 512, most)
		case 4:
			m.Rows = ts(0, 9)
		}
		return m
	case n < 12 && len(c.Loads) > 0:
		m := told(pick(r, c.Loads...), r.IntN(c.Layout.Shards))
		if r.IntN(10) == 0 {
			m.File.Version.Load++
		}
		return m
	}
	return pick(r, beat(1), beat(2), beat(3), beat(0), api.Msg{}, messages()[pick(r, "Start", "Started", "Ack", "Clean", "Install", "Claims", "Installed", "Batch")])
}

// tally counts what happens, so that nothing stays unseen.
func tally(seen map[string]int, before, after api.Coord, posts []api.Post) {
	for _, p := range posts {
		seen[map[api.MsgKind]string{api.MsgStart: "Start", api.MsgAck: "Ack", api.MsgClean: "Clean", api.MsgInstall: "Install"}[p.Msg.Kind]]++
	}
	for _, a := range after.Answers[len(before.Answers):] {
		seen[fmt.Sprint("error ", a.Why)]++
		if len(a.Names) > 0 {
			seen["rows"]++
		}
	}
	for _, r := range after.Runs {
		for _, x := range before.Runs {
			if x.N == r.N && x.Attempt < r.Attempt {
				seen["another attempt"]++
			}
		}
	}
	if !alike(before.Claims, after.Claims) {
		seen["published"]++
	}
	if after.Disk.Down && !before.Disk.Down {
		seen["down"]++
	}
}

func TestAsTheDocumentSays(t *testing.T) { // 18.2, 18.3, 18.4, 18.6
	r := rand.New(rand.NewPCG(18, 1))
	seen := make(map[string]int)
	for range 700 {
		c := randomCoord(r)
		if coord.Check(c) != api.OK {
			t.Fatalf("a coordinator is not right: %v", c)
		}
		for range 12 {
			s := secondOf(c)
			var next api.Coord
			var n, m uint64
			var posts []api.Post
			k := r.IntN(12)
			isOrder := k < 2
			switch {
			case k == 0:
				q := pick(r, append(queries, "(from z)", "?")...)
				next, n, posts = coord.Ask(c, q)
				if !c.Disk.Down {
					m = s.ask(q)
				}
			case k == 1:
				x := randomTable(r)
				next, n, posts = coord.Load(c, x)
				if !c.Disk.Down {
					m = s.load(x)
				}
			case k < 4:
				next, posts = coord.Tick(c)
				s.tick()
			default:
				from, x := r.IntN(c.Layout.Nodes+2)-1, randomMsg(r, c)
				next, posts = coord.Receive(c, from, x)
				s.receive(from, x)
			}
			if n != m || !alike(posts, s.posts) || !alike(next, s.Coord) {
				t.Fatalf("the numbers are %d and %d; sent: %s; the coordinator: %s", n, m, differ(posts, s.posts), differ(next, s.Coord))
			}
			if why := coord.Check(next); why != api.OK {
				t.Fatalf("%v is not right", next)
			}
			tally(seen, c, next, posts)
			if isOrder && n == 0 && !c.Disk.Down {
				seen["no number left"]++
			}
			c = next
		}
	}
	for _, what := range []string{"Start", "Ack", "Clean", "Install", "rows", "another attempt", "published", "down", "no number left", "error 0", "error 3", "error 5", "error 8", "error 13", "error 14", "error 18"} {
		if seen[what] < 20 {
			t.Errorf("%s was seen %d times", what, seen[what])
		}
	}
}
