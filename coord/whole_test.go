package coord_test

import (
	"fmt"
	"math/rand/v2"
	"testing"

	"potsherd/algebra"
	"potsherd/api"
	"potsherd/coord"
	"potsherd/disk"
	"potsherd/files"
	"potsherd/net"
	"potsherd/place"
	"potsherd/publish"
	"potsherd/wire"
	"potsherd/worker"
)

// question is what was asked, and what it is to come to.
type question struct {
	text string
	rows []api.Row
}

// cluster is a coordinator, workers, and a network that loses, doubles and mixes; nodes crash, and are opened again.
type cluster struct {
	t       *testing.T
	r       *rand.Rand
	layout  api.Layout
	coord   api.Coord
	workers []api.Worker // from node 1 on
	up      []bool       // from node 0 on
	net     api.Net
	tables  map[api.Version]api.Table
	asked   map[api.Qid]question
	over    map[api.Qid]int
	seen    map[string]int
}

func newCluster(t *testing.T, r *rand.Rand, l api.Layout, seen map[string]int) *cluster {
	k := &cluster{t: t, r: r, layout: l, tables: make(map[api.Version]api.Table), asked: make(map[api.Qid]question), over: make(map[api.Qid]int), seen: seen}
	k.coord, _ = coord.Start(l, api.Disk{Fuse: -1})
	k.up = append(k.up, true)
	for id := 1; id < l.Nodes; id++ {
		w, _ := worker.Start(id, api.Disk{Fuse: -1})
		k.workers, k.up = append(k.workers, w), append(k.up, true)
	}
	return k
}

func (k *cluster) send(from int, posts []api.Post) {
	for _, p := range posts {
		s, why := wire.Write(p.Msg)
		if why != api.OK || p.To < 0 || p.To >= k.layout.Nodes {
			k.t.Fatalf("%v can't be sent", p)
		}
		if k.net, why = net.Send(k.net, from, p.To, s); why != api.OK && why != api.ErrFull {
			k.t.Fatal("net.Send: error", why)
		}
	}
}

// become is what the coordinator is now; its new answers are told.
func (k *cluster) become(c api.Coord, posts []api.Post) {
	if why := coord.Check(c); why != api.OK {
		k.t.Fatalf("%v is not right", c)
	}
	for _, a := range c.Answers {
		k.hear(c, a)
	}
	for _, r := range c.Runs {
		if r.Attempt > 1 {
			k.seen["another attempt"]++
		}
	}
	c.Answers = nil
	k.coord = c
	k.send(0, posts)
	k.holdClaims()
}

// hear says that an answer is what it is to be, and the first of its number.
func (k *cluster) hear(c api.Coord, a api.Answer) {
	q := api.Qid{Boot: c.Boot, N: a.N}
	if k.over[q]++; k.over[q] > 1 || a.N == 0 || a.N > c.Last {
		k.t.Fatalf("%v is answered once more", q)
	}
	k.seen[fmt.Sprint("error ", a.Why)]++
	asked, isQuery := k.asked[q]
	if a.Why != api.OK {
		return
	}
	if isQuery {
		k.seen["rows"]++
		if !alike(a.Rows, asked.rows) || len(a.Names) == 0 {
			k.t.Fatalf("%s: %v; not %v", asked.text, a.Rows, asked.rows)
		}
		return
	}
	if len(a.Names) > 0 || len(a.Rows) > 0 {
		k.t.Fatalf("a load is answered %v", a)
	}
	for _, x := range c.Claims {
		if x.Version == (api.Version{Boot: c.Boot, Load: a.N}) {
			return
		}
	}
	// Another load of the table may have been published behind it, by one and the same message.
	k.seen["published over"]++
}

// holdClaims says that who is said to hold a shard does, as it is, behind any crash.
func (k *cluster) holdClaims() {
	for _, c := range k.coord.Claims {
		rows, _ := place.Split(k.layout, k.tables[c.Version])
		for s, owners := range c.Owners {
			for _, id := range owners {
				d, _ := disk.Crash(k.workers[id-1].Disk, 0)
				f, ok := files.Find(d, c.Table, c.Version, s)
				if !ok || !alike(f.Rows, rows[s]) {
					k.t.Fatalf("worker %d has not shard %d of %v", id, s, c)
				}
			}
		}
	}
}

func (k *cluster) ask(text string) {
	if !k.up[0] || k.coord.Disk.Down {
		return
	}
	c, n, posts := coord.Ask(k.coord, text)
	if n != k.coord.Last+1 {
		k.t.Fatal("the number is", n)
	}
	if len(c.Runs) > len(k.coord.Runs) {
		b := c.Runs[len(c.Runs)-1].Bound
		var published []api.Table
		for _, x := range c.Claims {
			published = append(published, k.tables[x.Version])
		}
		rows, why := algebra.Run(b, published)
		if why != api.OK {
			k.t.Fatal("algebra.Run: error", why)
		}
		k.asked[qid(c, n)] = question{text, rows}
		k.seen["asked"]++
	}
	k.become(c, posts)
}

func (k *cluster) load() {
	if !k.up[0] || k.coord.Disk.Down {
		return
	}
	t := table(pick(k.r, "t", "u"), nil)
	for range k.r.IntN(25) {
		row := api.Row{pick(k.r, api.Value{}, whole(k.r.IntN(9)), whole(k.r.IntN(9))), pick(k.r, api.Value{}, whole(k.r.IntN(9)))}
		if t.Name == "t" {
			row[1] = text(fmt.Sprint(k.r.IntN(5)))
		}
		t.Rows = append(t.Rows, row)
	}
	c, n, posts := coord.Load(k.coord, t)
	k.tables[api.Version{Boot: c.Boot, Load: n}] = t
	k.become(c, posts)
}

func (k *cluster) deliver(i int) {
	under, p, why := net.Deliver(k.net, i)
	if why != api.OK {
		k.t.Fatal("net.Deliver: error", why)
	}
	k.net = under
	m, _ := wire.Read(p.Text)
	switch {
	case !k.up[p.To]:
	case p.To == 0:
		c, posts := coord.Receive(k.coord, p.From, m)
		k.become(c, posts)
	default:
		w, posts := worker.Receive(k.workers[p.To-1], p.From, m)
		k.workers[p.To-1] = w
		k.send(p.To, posts)
	}
}

func (k *cluster) tick() {
	if k.up[0] {
		c, posts := coord.Tick(k.coord)
		k.become(c, posts)
	}
	for i, w := range k.workers {
		if k.up[i+1] {
			w, posts := worker.Tick(w)
			k.workers[i] = w
			k.send(i+1, posts)
		}
	}
}

func (k *cluster) diskOf(node int) *api.Disk {
	if node == 0 {
		return &k.coord.Disk
	}
	return &k.workers[node-1].Disk
}

func (k *cluster) crash(node int) {
	if k.up[node] {
		k.seen["crash"]++
		d := k.diskOf(node)
		*d, _ = disk.Crash(*d, k.r.IntN(40))
		k.up[node] = false
	}
}

// restart opens a node that is not up, or whose power went; with a fuse it may fail again.
func (k *cluster) restart(node, fuse int) {
	d, _ := disk.Crash(*k.diskOf(node), 0)
	d.Fuse = fuse
	if node > 0 {
		w, why := worker.Start(node, d)
		k.workers[node-1], k.up[node] = w, why == api.OK
		return
	}
	c, why := coord.Start(k.layout, d)
	if why == api.OK && !alike(c.Claims, k.coord.Claims) {
		k.t.Fatalf("published is %v; not %v", c.Claims, k.coord.Claims)
	}
	if why != api.OK {
		c.Claims = k.coord.Claims // for the next time
	}
	k.coord, k.up[0] = c, why == api.OK
}

func (k *cluster) step() {
	n := len(k.net.Packets)
	node := k.r.IntN(k.layout.Nodes)
	switch x := k.r.IntN(1000); {
	case x < 5:
		k.load()
	case x < 20:
		k.ask(pick(k.r, all, counted, joined, shuffled, elsewhere, "(from t (group s) (get s (count) (min k)))", "(from u (join t u.n t.k) (get (count) (max s)))"))
	case x < 22:
		k.crash(node)
	case x < 24 && k.r.IntN(k.layout.Nodes) > 0:
		k.diskOf(node).Fuse = k.r.IntN(12)
	case x < 40:
		for node, isUp := range k.up {
			if !isUp || k.diskOf(node).Down {
				k.restart(node, pick(k.r, -1, -1, k.r.IntN(6)))
			}
		}
	case n == 0 || x < 70 && n < 400:
		k.tick()
	case x < 130:
		k.net, _ = net.Drop(k.net, k.r.IntN(n))
	case x < 180 && n < 400:
		k.net, _ = net.Copy(k.net, k.r.IntN(n))
	case x < 300:
		k.deliver(k.r.IntN(n))
	default:
		k.deliver(0)
	}
}

// round delivers all that is under way, and lets a tick go by.
func (k *cluster) round() {
	for steps := 0; len(k.net.Packets) > 0; steps++ {
		if steps > 100000 {
			k.t.Fatal("there is no end of it")
		}
		k.deliver(0)
	}
	k.tick()
}

// rest lets everything come to an end: from now on nothing is lost, and all nodes are up.
func (k *cluster) rest() {
	for node := range k.up {
		if !k.up[node] || k.diskOf(node).Down {
			k.restart(node, -1)
		}
		k.diskOf(node).Fuse = -1
	}
	for rounds := 0; len(k.coord.Runs) > 0 || len(k.coord.Loads) > 0; rounds++ {
		if rounds > 20 {
			k.t.Fatalf("under way are %v, %v", k.coord.Runs, k.coord.Loads)
		}
		k.round()
	}
	for range 3 {
		k.round()
	}
}

func TestCoordinatorAndWorkers(t *testing.T) { // 17.4, 17.5, 18.6, 18.7, 18.8, P6, P7, P8, P9
	r := rand.New(rand.NewPCG(18, 3))
	seen := make(map[string]int)
	for _, l := range []api.Layout{{Nodes: 2, Shards: 1, Replicas: 1}, {Nodes: 3, Shards: 1, Replicas: 1}, wide(), {Nodes: 8, Shards: 8, Replicas: 2}, {Nodes: 5, Shards: 2, Replicas: 4}, wide()} {
		k := newCluster(t, r, l, seen)
		for range 4 {
			for range 2000 {
				k.step()
			}
			k.rest()
			k.ask(all)
			k.ask(shuffled)
			before := seen["error 0"]
			taken := len(k.coord.Runs)
			k.rest()
			if got := seen["error 0"] - before; got != taken {
				t.Fatalf("%v: %d of %d queries are answered OK, with all nodes up", l, got, taken)
			}
		}
		for q := range k.asked { // of the last opening all are answered
			if q.Boot == k.coord.Boot && k.over[q] != 1 {
				t.Fatalf("%v: %v is not answered", l, q)
			}
		}
		for _, c := range k.coord.Claims {
			if place.CheckClaim(l, c) != api.OK || publish.Check(l, api.Load{Table: k.tables[c.Version], Acks: c.Owners}) != api.OK {
				t.Fatalf("%v: published is %v", l, c)
			}
		}
	}
	for _, what := range []string{"asked", "rows", "crash", "another attempt", "error 0", "error 14", "error 18"} {
		if seen[what] < 10 {
			t.Errorf("%s was seen %d times", what, seen[what])
		}
	}
}
