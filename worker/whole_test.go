package worker_test

import (
	"math/rand/v2"
	"slices"
	"testing"

	"potsherd/algebra"
	"potsherd/api"
	"potsherd/disk"
	"potsherd/exec"
	"potsherd/lease"
	"potsherd/net"
	"potsherd/place"
	"potsherd/plan"
	"potsherd/stream"
	"potsherd/wire"
	"potsherd/worker"
)

// cluster is workers, a network that loses, doubles and mixes, and a coordinator that runs one query.
type cluster struct {
	t       *testing.T
	r       *rand.Rand
	layout  api.Layout
	tables  []api.Table
	claims  []api.Claim
	workers []api.Worker // from node 1 on
	net     api.Net
	leases  api.Leases
	now     uint64
	query   api.Qid
	bound   api.Bound
	attempt int
	frags   []api.Frag
	ins     []api.In
	fresh   bool // a worker was opened anew
}

func newCluster(t *testing.T, r *rand.Rand, l api.Layout) *cluster {
	c := &cluster{t: t, r: r, layout: l, tables: catalog()}
	c.leases, _ = lease.New(l.Nodes)
	for range 20 + r.IntN(40) {
		k := r.IntN(12)
		c.tables[0].Rows = append(c.tables[0].Rows, ts(k, k+1)[0])
		c.tables[1].Rows = append(c.tables[1].Rows, us(k*r.IntN(3), k*r.IntN(3)+40)[r.IntN(9)])
	}
	for id := 1; id < l.Nodes; id++ {
		w, _ := worker.Start(id, api.Disk{Fuse: -1})
		c.workers = append(c.workers, w)
	}
	for _, x := range c.tables {
		shards, _ := place.Split(l, x)
		claim := api.Claim{Table: x.Name, Cols: x.Cols, Version: version()}
		for s, rows := range shards {
			owners, _ := place.Owners(l, s)
			claim.Owners = append(claim.Owners, owners)
			for _, id := range owners {
				var posts []api.Post
				c.workers[id-1], posts = worker.Receive(c.workers[id-1], 0, install(file(x.Name, s, rows)))
				if len(posts) != 1 {
					t.Fatal("a shard is not kept")
				}
			}
		}
		c.claims = append(c.claims, claim)
	}
	return c
}

func (c *cluster) send(from int, posts ...api.Post) {
	for _, p := range posts {
		text, why := wire.Write(p.Msg)
		if why != api.OK {
			c.t.Fatalf("%v is no message", p.Msg)
		}
		if c.net, why = net.Send(c.net, from, p.To, text); why != api.OK && why != api.ErrFull {
			c.t.Fatal("net.Send: error", why)
		}
	}
}

// begin is another attempt of the query.
func (c *cluster) begin() {
	var why api.Errno
	c.attempt++
	alive := slices.Repeat([]bool{true}, c.layout.Nodes)
	if c.frags, why = plan.Make(c.bound, c.layout, c.claims, alive); why != api.OK {
		c.t.Fatal("plan.Make: error", why)
	}
	c.ins = nil
	for _, f := range c.frags {
		if len(f.To) == 0 {
			c.ins = append(c.ins, api.In{Stream: api.Stream{Query: c.query, Attempt: c.attempt, From: f.Id, To: -1}})
		}
	}
	c.starts()
}

func (c *cluster) starts() {
	var nodes []int
	for _, f := range c.frags {
		nodes = append(nodes, f.Node)
	}
	for _, f := range c.frags {
		c.send(0, post(f.Node, api.Msg{Kind: api.MsgStart, Stream: api.Stream{Query: c.query, Attempt: c.attempt}, Bound: c.bound, Catalog: plan.Catalog(c.claims), Frag: f, Nodes: nodes})...)
	}
}

// receive is the coordinator's.
func (c *cluster) receive(from int, m api.Msg) {
	if m.Kind == api.MsgBeat {
		var isNew bool
		c.leases, isNew, _ = lease.Beat(c.leases, from, m.Boot, c.now)
		c.fresh = c.fresh || isNew && m.Boot > 1
	}
	if m.Kind != api.MsgBatch {
		return
	}
	for i, in := range c.ins {
		if in.Stream == m.Stream {
			var why api.Errno
			if c.ins[i], why = stream.Take(in, m); why == api.OK || why == api.ErrTwice {
				c.send(0, post(c.frags[in.Stream.From].Node, stream.Ack(c.ins[i]))...)
			}
		}
	}
}

func (c *cluster) deliver(i int) {
	n, p, why := net.Deliver(c.net, i)
	if why != api.OK {
		c.t.Fatal("net.Deliver: error", why)
	}
	c.net = n
	m, _ := wire.Read(p.Text)
	if p.To == 0 {
		c.receive(p.From, m)
		return
	}
	w, posts := worker.Receive(c.workers[p.To-1], p.From, m)
	c.check(w)
	c.workers[p.To-1] = w
	c.send(p.To, posts...)
}

// check says what holds of each worker at any time.
func (c *cluster) check(w api.Worker) {
	if worker.Check(w) != api.OK {
		c.t.Fatalf("%v is not right", w)
	}
	for _, x := range w.Tasks {
		for _, y := range w.Tasks {
			if x.Query == y.Query && x.Attempt != y.Attempt {
				c.t.Fatalf("two attempts at once: %v", w.Tasks)
			}
		}
		if slices.Contains(w.Over.Ids, x.Query) || w.Now-x.Seen >= 8 {
			c.t.Fatalf("a task of a query that is over: %v", w.Tasks)
		}
		for _, in := range x.Ins {
			if len(in.Held) > 4 {
				c.t.Fatalf("too many are held: %v", in)
			}
		}
	}
}

func (c *cluster) tick() {
	c.now++
	if c.fresh {
		c.fresh = false
		c.begin()
	}
	c.starts()
	for _, in := range c.ins {
		c.send(0, post(c.frags[in.Stream.From].Node, stream.Ack(in))...)
	}
	for i := range c.workers {
		w, posts := worker.Tick(c.workers[i])
		c.check(w)
		c.workers[i] = w
		c.send(i+1, posts...)
	}
}

// crash opens a worker anew.
func (c *cluster) crash() {
	i := c.r.IntN(len(c.workers))
	d, _ := disk.Crash(c.workers[i].Disk, 0)
	w, why := worker.Start(i+1, d)
	if why != api.OK || w.Boot <= c.workers[i].Boot {
		c.t.Fatal("Start: error", why)
	}
	c.workers[i] = w
}

func (c *cluster) step() {
	switch n := len(c.net.Packets); {
	case n == 0 || c.r.IntN(40) == 0 && n < 300:
		c.tick()
	case c.r.IntN(1000) == 0:
		c.crash()
	case c.r.IntN(8) == 0:
		c.net, _ = net.Drop(c.net, c.r.IntN(n))
	case n < 300 && c.r.IntN(8) == 0:
		c.net, _ = net.Copy(c.net, c.r.IntN(n))
	default:
		c.deliver(c.r.IntN(n))
	}
}

func (c *cluster) isDone() bool {
	return !slices.ContainsFunc(c.ins, func(i api.In) bool { return !i.Done })
}

// run asks a query, and says that what comes is what it comes to.
func (c *cluster) run(query string) {
	c.query.N++
	c.bound, c.attempt = bound(query), 0
	c.begin()
	for steps := 0; !c.isDone(); steps++ {
		c.step()
		if steps > 100000 {
			c.t.Fatalf("%s: not done: %v", query, c.ins)
		}
	}
	var all []api.Row
	for _, in := range c.ins {
		all = append(all, in.Rows...)
	}
	got, why := exec.Finish(c.bound, plan.Catalog(c.claims), all)
	want, why1 := algebra.Run(c.bound, c.tables)
	if why != api.OK || why1 != api.OK || !alike(got, want) {
		c.t.Fatalf("%s: %v, error %d; not %v, error %d", query, got, why, want, why1)
	}
}

// clean tells all workers that the query is over, while what was sent of it is under way.
func (c *cluster) clean() {
	for i := range c.workers {
		w, posts := worker.Receive(c.workers[i], 0, clean(c.query))
		if len(w.Tasks) > 0 || len(posts) > 0 {
			c.t.Fatalf("behind a Clean: %v, %v", w.Tasks, posts)
		}
		c.workers[i] = w
	}
	for len(c.net.Packets) > 0 {
		c.deliver(0)
	}
	for i, w := range c.workers {
		if len(w.Tasks) > 0 {
			c.t.Fatalf("worker %d has %v", i+1, w.Tasks)
		}
	}
}

func TestWorkersTogether(t *testing.T) { // 16.5, 16.6, 16.7, 16.8, 15.3: what workers do together comes to what the query does
	r := rand.New(rand.NewPCG(16, 3))
	attempts := 0
	for _, l := range []api.Layout{{Nodes: 2, Shards: 1, Replicas: 1}, {Nodes: 3, Shards: 1, Replicas: 1}, {Nodes: 4, Shards: 3, Replicas: 2}, {Nodes: 8, Shards: 8, Replicas: 1}, {Nodes: 5, Shards: 2, Replicas: 4}} {
		c := newCluster(t, r, l)
		for _, query := range []string{all, "(from t (where (> k 3)) (group k) (get k (count) (min s)))", joined, "(from t (join u t.k u.n) (get (count) (sum n)))", "(from u (join t u.n t.k) (group s) (get s (max n)))"} {
			c.run(query)
			attempts = max(attempts, c.attempt)
			c.clean()
		}
	}
	if attempts < 2 {
		t.Error("no query had another attempt")
	}
}

func TestSilence(t *testing.T) { // 16.7, 15.3: once nothing comes from the coordinator, all is over behind a while
	r := rand.New(rand.NewPCG(16, 4))
	c := newCluster(t, r, api.Layout{Nodes: 4, Shards: 3, Replicas: 2})
	c.bound = bound("(from t (join u t.k u.n) (get s n))")
	c.begin()
	for len(c.net.Packets) > 0 {
		c.deliver(0)
	}
	for n := range 8 {
		for i, w := range c.workers {
			if len(w.Tasks) == 0 {
				t.Errorf("behind %d ticks worker %d has no tasks", n, i+1)
			}
			c.workers[i], _ = worker.Tick(w) // what is sent is lost
		}
	}
	for i, w := range c.workers {
		if len(w.Tasks) > 0 {
			t.Errorf("worker %d has %v", i+1, w.Tasks)
		}
	}
}
