package world_test

import (
	"fmt"
	"math/rand/v2"
	"testing"

	"potsherd/algebra"
	"potsherd/api"
	"potsherd/bind"
	"potsherd/coord"
	"potsherd/disk"
	"potsherd/files"
	"potsherd/parse"
	"potsherd/place"
	"potsherd/plan"
	"potsherd/world"
)

// witness sees all that happens in a world, and holds it against what must follow: losses, copies, any order, crashes and fuses are the network's and the nodes'.
type witness struct {
	*game
	r      *rand.Rand
	layout api.Layout
	tables map[api.Version]api.Table // all that were to be published ever
	last   map[string]api.Version    // of each table the one that was told to be published last
	asked  map[api.Qid][]api.Row     // what each query comes to
	taken  map[api.Qid]string        // what was ordered
	over   map[api.Qid]int
	told   int
	seen   map[string]int
}

func newWitness(t *testing.T, r *rand.Rand, l api.Layout, seen map[string]int) *witness {
	return &witness{game: started(t, l), r: r, layout: l, tables: make(map[api.Version]api.Table), last: make(map[string]api.Version), asked: make(map[api.Qid][]api.Row), taken: make(map[api.Qid]string), over: make(map[api.Qid]int), seen: seen}
}

// published is the tables that were told to be published last.
func (x *witness) published() (l []api.Table) {
	for _, v := range x.last {
		l = append(l, x.tables[v])
	}
	return l
}

// comesTo is what a query comes to by now, if it can be bound.
func (x *witness) comesTo(query string) []api.Row {
	q, why, _ := parse.Parse(query)
	if why != api.OK {
		return nil
	}
	l := x.published()
	b, why := bind.Bind(q, l)
	if why != api.OK {
		return nil
	}
	rows, why := algebra.Run(b, l)
	if why != api.OK {
		x.t.Fatalf("%s: algebra.Run: error %d", query, why)
	}
	return rows
}

// order gives the coordinator something, if it takes it.
func (x *witness) order(query string) {
	before, boot := x.World, x.Coord.Boot
	if query != "" {
		rows := x.comesTo(query)
		w, n, why := world.Ask(x.World, query)
		if x.take(w, n, why, before) {
			x.asked[api.Qid{Boot: boot, N: n}], x.taken[api.Qid{Boot: boot, N: n}] = rows, query
		}
	} else {
		t := x.someTable()
		w, n, why := world.Load(x.World, t)
		if x.take(w, n, why, before) {
			x.tables[api.Version{Boot: boot, Load: n}], x.taken[api.Qid{Boot: boot, N: n}] = t, ""
		}
	}
	x.hear()
}

// take says that an order is taken just if the coordinator is there.
func (x *witness) take(w api.World, n uint64, why api.Errno, before api.World) bool {
	x.t.Helper()
	isThere := before.Up[0] && !before.Coord.Disk.Down
	if isThere != (why == api.OK) || isThere != (n == before.Coord.Last+1 && n > 0) || !isThere && why != api.ErrDown {
		x.t.Fatalf("the number is %d, error %d", n, why)
	}
	x.World = w
	return isThere
}

func (x *witness) someTable() api.Table {
	t := api.Table{Name: pick(x.r, "t", "u")}
	t.Cols = colsOf(t.Name)
	for range x.r.IntN(25) {
		row := api.Row{pick(x.r, api.Value{}, whole(x.r.IntN(9)), whole(x.r.IntN(9))), pick(x.r, api.Value{}, whole(x.r.IntN(9)))}
		if t.Name == "t" {
			row[1] = text(fmt.Sprint(x.r.IntN(5)))
		}
		t.Rows = append(t.Rows, row)
	}
	return t
}

// hear holds what was answered just now against what must follow.
func (x *witness) hear() {
	x.t.Helper()
	if world.Check(x.World) != api.OK { // 19.6
		x.t.Fatalf("%v is not right", x.World)
	}
	for _, a := range x.Answers[x.told:] {
		q := api.Qid{Boot: a.Boot, N: a.Answer.N}
		if x.over[q]++; x.over[q] > 1 || a.Boot != x.Coord.Boot || q.N == 0 || q.N > x.Coord.Last { // 19.7
			x.t.Fatalf("%v is answered once more", q)
		}
		x.seen[fmt.Sprint("error ", a.Answer.Why)]++
		if a.Answer.Why != api.OK {
			if len(a.Answer.Names)+len(a.Answer.Rows) > 0 {
				x.t.Fatalf("an error with %v", a.Answer)
			}
			continue
		}
		if t, isLoad := x.tables[api.Version{Boot: q.Boot, Load: q.N}]; isLoad {
			x.last[t.Name] = api.Version{Boot: q.Boot, Load: q.N}
			x.seen["published"]++
			continue
		}
		x.seen["rows"]++
		if !alike(a.Answer.Rows, x.asked[q]) || len(a.Answer.Names) == 0 { // 19.7
			x.t.Fatalf("%s: %v; not %v", x.taken[q], a.Answer.Rows, x.asked[q])
		}
	}
	x.told = len(x.Answers)
	x.holdClaims()
}

// holdClaims says that what was told to be published is, and who is said to hold a shard does, as it is, behind any crash.
func (x *witness) holdClaims() {
	x.t.Helper()
	d, _ := disk.Crash(x.Coord.Disk, 0)
	claims, why := files.Claims(d)
	if why != api.OK || len(claims) != len(x.last) || x.Up[0] && !alike(claims, x.Coord.Claims) || plan.Check(x.layout, claims) != api.OK {
		x.t.Fatalf("published is %v, error %d", claims, why)
	}
	for _, c := range claims {
		if c.Version != x.last[c.Table] {
			x.t.Fatalf("published is %v; not %v", c, x.last[c.Table])
		}
		rows, _ := place.Split(x.layout, x.tables[c.Version])
		for s, owners := range c.Owners {
			for _, id := range owners {
				d, _ := disk.Crash(x.Workers[id-1].Disk, 0)
				f, ok := files.Find(d, c.Table, c.Version, s)
				if !ok || !alike(f.Rows, rows[s]) || !alike(f.Cols, c.Cols) {
					x.t.Fatalf("worker %d has not shard %d of %v", id, s, c)
				}
			}
		}
	}
}

func (x *witness) someQuery() string {
	return pick(x.r, all, counted, joined, shuffled, "(from u (get n))", "(from t (group s) (get s (count) (min k)))", "(from u (join t u.n t.k) (get (count) (max s)))", "(from t (where (> k 3)))")
}

// wild is something that may happen.
func (x *witness) wild() {
	n, node := len(x.Net.Packets), x.r.IntN(x.layout.Nodes)
	switch k := x.r.IntN(1000); {
	case k < 7:
		x.order("")
		return
	case k < 25:
		x.order(x.someQuery())
		return
	case k < 28:
		x.mayCrash(node, x.r.IntN(40))
	case k < 31:
		x.fuse(node, x.r.IntN(12))
	case k < 50:
		x.mayRestart(node)
	case n == 0 || k < 80 && n < 400:
		x.tick()
	case k < 130:
		x.drop(x.r.IntN(n))
	case k < 180 && n < 400:
		x.double(x.r.IntN(n))
	case k < 300:
		x.deliver(x.r.IntN(n))
	default:
		x.deliver(0)
	}
	x.hear()
}

func (x *witness) mayCrash(node, keep int) {
	if x.Up[node] {
		x.seen["crash"]++
		x.crash(node, keep)
	}
}

// mayRestart opens a node that is not up, or whose power went.
func (x *witness) mayRestart(node int) {
	if x.Up[node] && !diskOf(&x.World, node).Down {
		return
	}
	if x.Up[node] {
		x.seen["power"]++
		x.crash(node, x.r.IntN(40))
	}
	x.restart(node)
}

// rest lets everything come to an end: from now on all nodes are up, and all that is under way is delivered between ticks.
func (x *witness) rest() {
	x.t.Helper()
	for node := range x.Up {
		x.mayRestart(node)
		x.fuse(node, -1)
	}
	for rounds := 0; rounds < 3 || len(x.Coord.Runs)+len(x.Coord.Loads) > 0; rounds++ {
		if rounds > 20 {
			x.t.Fatalf("under way are %v, %v", x.Coord.Runs, x.Coord.Loads)
		}
		for steps := 0; len(x.Net.Packets) > 0; steps++ {
			if x.deliver(0); steps > 100000 {
				x.t.Fatal("there is no end of it")
			}
		}
		x.tick()
		x.hear()
	}
	for q, what := range x.taken { // 19.9: of the last opening all are answered
		if q.Boot == x.Coord.Boot && x.over[q] != 1 {
			x.t.Fatalf("%v (%s) is not answered", q, what)
		}
	}
}

// ends says that what is asked, and given, once all are up is answered OK.
func (x *witness) ends() {
	x.t.Helper()
	x.rest()
	queries := []string{x.someQuery(), x.someQuery(), x.someQuery()}
	told := len(x.Answers)
	x.order("")
	for _, q := range queries {
		x.order(q)
	}
	x.rest()
	for _, a := range x.Answers[told:] {
		if why := a.Answer.Why; why != api.OK && why != api.ErrName { // a table may not be there yet
			x.t.Fatalf("%v: error %d, with all nodes up", x.taken[api.Qid{Boot: a.Boot, N: a.Answer.N}], why)
		}
	}
	if len(x.Answers) != told+4 {
		x.t.Fatal("of 4 orders are answered", len(x.Answers)-told)
	}
}

func TestWholeWorlds(t *testing.T) { // 19.6, 19.7, 19.8, 19.9, P6, P7, P8, P9
	r := rand.New(rand.NewPCG(19, 3))
	seen := make(map[string]int)
	for _, l := range []api.Layout{{Nodes: 2, Shards: 1, Replicas: 1}, {Nodes: 3, Shards: 1, Replicas: 2}, wide(), {Nodes: 8, Shards: 8, Replicas: 2}, {Nodes: 5, Shards: 2, Replicas: 4}, {Nodes: 4, Shards: 5, Replicas: 1}} {
		x := newWitness(t, r, l, seen)
		for range 4 {
			for range 1000 {
				x.wild()
				for _, run := range x.Coord.Runs {
					if run.Attempt > 1 {
						seen["another attempt"]++
					}
				}
			}
			x.ends()
		}
	}
	for _, what := range []string{"published", "rows", "crash", "power", "another attempt", "error 0", "error 14", "error 18"} {
		if seen[what] < 10 {
			t.Errorf("%s was seen %d times", what, seen[what])
		}
	}
}

func TestEveryFuse(t *testing.T) { // 19.6, 19.8, 19.9: the power of each node goes at each change
	for node := range 4 {
		for fuse := range 7 {
			for _, keep := range []int{0, 1, 1 << 20} {
				x := newWitness(t, rand.New(rand.NewPCG(19, uint64(fuse))), wide(), make(map[string]int))
				x.calm(1)
				x.order("")
				x.calm(1)
				x.hear()
				x.fuse(node, fuse)
				x.order("")
				x.order(x.someQuery())
				x.calm(1)
				x.hear()
				if x.Up[node] {
					x.crash(node, keep)
				}
				x.hear()
				x.calm(10)
				x.hear()
				x.restart(node)
				x.ends()
			}
		}
	}
}

func TestAnswersOfTwoOpenings(t *testing.T) { // 19.7: numbers begin anew with each opening; what the one before was asked is not answered any more
	g := filled(t)
	old := g.ask(all)
	g.crash(0, 0)
	g.restart(0)
	g.calm(1)
	for range 2 {
		g.ask(counted)
		g.calm(1)
	}
	var got []api.Qid
	for _, a := range g.Answers {
		got = append(got, api.Qid{Boot: a.Boot, N: a.Answer.N})
	}
	want := []api.Qid{{Boot: 1, N: 1}, {Boot: 1, N: 2}, {Boot: 2, N: 1}, {Boot: 2, N: 2}}
	if old != 3 || !alike(got, want) {
		t.Errorf("%v; not %v", got, want)
	}
}

func TestOldVersions(t *testing.T) { // 19.7: a query is answered from what was published when it was asked
	g := filled(t)
	g.ask(counted) // 20 rows
	late := g.Net.Packets
	g.Net.Packets = nil
	g.load(table("t", 7))
	g.empty()
	g.ask(counted)
	g.empty()
	g.Net.Packets = late
	g.empty()
	if n := len(g.Answers); n != 5 || g.Answers[3].Answer.N != 5 || g.Answers[4].Answer.N != 3 {
		t.Fatal("the answers are", g.Answers)
	}
	if a, b := g.Answers[3].Answer.Rows[0][0], g.Answers[4].Answer.Rows[0][0]; a != whole(7) || b != whole(20) {
		t.Errorf("counted are %v, and of the one before %v", a, b)
	}
	if why := coord.Check(g.Coord); why != api.OK {
		t.Error("Check: error", why)
	}
}
