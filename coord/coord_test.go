package coord_test

import (
	"fmt"
	"math"
	"reflect"
	"slices"
	"testing"

	"potsherd/api"
	"potsherd/bind"
	"potsherd/coord"
	"potsherd/files"
	"potsherd/lease"
	"potsherd/parse"
	"potsherd/place"
	"potsherd/plan"
	"potsherd/stream"
	"potsherd/wire"
)

const most uint64 = math.MaxUint64

// boot is the opening of the coordinator of these tests.
const boot = 3

// wide is the layout of most of these tests: its shards are owned by 1 and 2, by 2 and 3, by 1 and 3.
func wide() api.Layout { return api.Layout{Nodes: 4, Shards: 3, Replicas: 2} }

func whole(n int) api.Value { return api.Value{Kind: api.KindInt, N: int64(n)} }

func text(s string) api.Value { return api.Value{Kind: api.KindText, S: s} }

// tidy is a new x whose empty lists are nil.
func tidy(x any) any {
	var walk func(v reflect.Value) reflect.Value
	walk = func(v reflect.Value) reflect.Value {
		out := reflect.New(v.Type()).Elem()
		out.Set(v)
		switch v.Kind() {
		case reflect.Slice:
			out.SetZero()
			for i := range v.Len() {
				out.Set(reflect.Append(out, walk(v.Index(i))))
			}
		case reflect.Struct:
			for i := range v.NumField() {
				out.Field(i).Set(walk(v.Field(i)))
			}
		}
		return out
	}
	return walk(reflect.ValueOf(x)).Interface()
}

// alike tells whether two things are, nil and empty lists being so.
func alike(a, b any) bool { return reflect.DeepEqual(tidy(a), tidy(b)) }

// differ tells where two things differ first, as they are too long to be told whole.
func differ(a, b any) string {
	var walk func(at string, x, y reflect.Value) string
	walk = func(at string, x, y reflect.Value) string {
		switch x.Kind() {
		case reflect.Slice:
			for i := range min(x.Len(), y.Len()) {
				if d := walk(fmt.Sprintf("%s[%d]", at, i), x.Index(i), y.Index(i)); d != "" {
					return d
				}
			}
			if x.Len() != y.Len() {
				return fmt.Sprintf("%s has %d parts; not %d", at, x.Len(), y.Len())
			}
		case reflect.Struct:
			for i := range x.NumField() {
				if d := walk(at+"."+x.Type().Field(i).Name, x.Field(i), y.Field(i)); d != "" {
					return d
				}
			}
		default:
			if !reflect.DeepEqual(x.Interface(), y.Interface()) {
				return fmt.Sprintf("%s is %.99v; not %.99v", at, x, y)
			}
		}
		return ""
	}
	return walk("", reflect.ValueOf(a), reflect.ValueOf(b))
}

// colsOf are the columns of a table of these tests.
func colsOf(table string) []api.Col {
	cols := []api.Col{{Name: "k", Kind: api.KindInt}, {Name: "s", Kind: api.KindText}}
	if table == "u" {
		cols[1] = api.Col{Name: "n", Kind: api.KindInt}
	}
	return cols
}

func claim(table string, v api.Version, owners ...[]int) api.Claim {
	return api.Claim{Table: table, Cols: colsOf(table), Version: v, Owners: owners}
}

// claims are those of the coordinator of these tests: not all owners have all shards.
func claims() []api.Claim {
	return []api.Claim{
		claim("t", api.Version{Boot: 1, Load: 4}, []int{1, 2}, []int{2, 3}, []int{1, 3}),
		claim("u", api.Version{Boot: 2, Load: 7}, []int{1}, []int{2, 3}, []int{3}),
	}
}

// many are n claims, of which the first is of t.
func many(n int) (l []api.Claim) {
	for i := range n {
		l = append(l, claim(fmt.Sprint("t", i), api.Version{Boot: 1, Load: uint64(i)}, []int{1, 2}, []int{2, 3}, []int{1, 3}))
	}
	if n > 0 {
		l[0].Table = "t"
	}
	return l
}

// kept is a disk on which these are published.
func kept(l []api.Claim) api.Disk {
	d, why := files.Publish(api.Disk{Fuse: -1}, l)
	if why != api.OK {
		panic(fmt.Sprint("Publish: error ", why))
	}
	return d
}

// quiet is a coordinator that has nothing to do, at 20; all workers are alive.
func quiet() api.Coord {
	leases := api.Leases{Boots: []uint64{0, 5, 6, 7}, Seen: []uint64{0, 20, 20, 20}}
	return api.Coord{Layout: wide(), Boot: boot, Disk: kept(claims()), Leases: leases, Claims: claims(), Now: 20, Last: 40}
}

// with is one of which something is changed.
func with(change func(c *api.Coord)) api.Coord {
	c := quiet()
	change(&c)
	return c
}

const (
	all       = "(from t)"
	counted   = "(from t (get (count) (sum k)))"
	joined    = "(from t (join u t.k u.k) (get s n))" // side by side
	shuffled  = "(from t (join u t.k u.n) (get s n))"
	elsewhere = "(from u (get n))"
)

func bound(query string, l []api.Claim) api.Bound {
	q, why, _ := parse.Parse(query)
	b, why1 := bind.Bind(q, plan.Catalog(l))
	if why != api.OK || why1 != api.OK {
		panic(fmt.Sprintf("%s: errors %d, %d", query, why, why1))
	}
	return b
}

func qid(c api.Coord, n uint64) api.Qid { return api.Qid{Boot: c.Boot, N: n} }

// run is one of that number that c begins now.
func run(c api.Coord, n uint64, query string, attempt int) api.Run {
	alive, _ := lease.Alive(c.Leases, c.Now)
	r := api.Run{N: n, Bound: bound(query, c.Claims), Claims: tidy(c.Claims).([]api.Claim), Attempt: attempt}
	var why api.Errno
	if r.Frags, why = plan.Make(r.Bound, c.Layout, c.Claims, alive); why != api.OK {
		panic(fmt.Sprint("Make: error ", why))
	}
	for _, f := range r.Frags {
		r.Boots = append(r.Boots, c.Leases.Boots[f.Node])
		if len(f.To) == 0 {
			r.Ins = append(r.Ins, api.In{Stream: link(c, r, f.Id)})
		}
	}
	return r
}

// link is the stream of a fragment of r to the coordinator.
func link(c api.Coord, r api.Run, from int) api.Stream {
	return api.Stream{Query: qid(c, r.N), Attempt: r.Attempt, From: from, To: -1}
}

// running is c with runs of these queries, in their first attempt, of numbers from 31 on.
func running(c api.Coord, queries ...string) api.Coord {
	for i, q := range queries {
		c.Runs = append(c.Runs, run(c, uint64(31+i), q, 1))
	}
	return c
}

// asked is one with a run of that query, of number 31.
func asked(query string) api.Coord { return running(quiet(), query) }

func post(to int, l ...api.Msg) (posts []api.Post) {
	for _, m := range l {
		posts = append(posts, api.Post{To: to, Msg: m})
	}
	return posts
}

// starts are the posts by which a run is begun.
func starts(c api.Coord, r api.Run) (l []api.Post) {
	var nodes []int
	for _, f := range r.Frags {
		nodes = append(nodes, f.Node)
	}
	for _, f := range r.Frags {
		s := api.Stream{Query: qid(c, r.N), Attempt: r.Attempt}
		l = append(l, post(f.Node, api.Msg{Kind: api.MsgStart, Stream: s, Bound: r.Bound, Catalog: plan.Catalog(r.Claims), Frag: f, Nodes: nodes})...)
	}
	return l
}

func ack(s api.Stream, seq uint64) api.Msg { return api.Msg{Kind: api.MsgAck, Stream: s, Seq: seq} }

// acks are the posts that tell nodes that nothing came yet of all streams of a run.
func acks(r api.Run) (l []api.Post) {
	for _, i := range r.Ins {
		l = append(l, post(r.Frags[i.Stream.From].Node, ack(i.Stream, 0))...)
	}
	return l
}

// cleans are the posts by which all workers forget a run.
func cleans(c api.Coord, n uint64) (l []api.Post) {
	for node := 1; node < c.Layout.Nodes; node++ {
		l = append(l, post(node, api.Msg{Kind: api.MsgClean, Stream: api.Stream{Query: qid(c, n)}})...)
	}
	return l
}

// batches are all messages of a stream.
func batches(s api.Stream, rows []api.Row) (l []api.Msg) {
	o, why := stream.Cut(s, rows)
	if why != api.OK {
		panic(fmt.Sprint("Cut: error ", why))
	}
	for i, b := range o.Batches {
		l = append(l, api.Msg{Kind: api.MsgBatch, Stream: s, Seq: uint64(i), Last: i == len(o.Batches)-1, Rows: b})
	}
	return l
}

// in is a stream of which these came.
func in(s api.Stream, l ...api.Msg) api.In {
	i := api.In{Stream: s}
	for _, m := range l {
		i, _ = stream.Take(i, m)
	}
	return i
}

// ts are rows of t.
func ts(from, to int) (l []api.Row) {
	for i := from; i < to; i++ {
		l = append(l, api.Row{whole(i), text(fmt.Sprint("text ", i))})
	}
	return l
}

func table(name string, rows []api.Row) api.Table {
	return api.Table{Name: name, Cols: colsOf(name), Rows: rows}
}

// load is one under way, of that number, of which these have said that they keep its shards.
func load(n uint64, t api.Table, acks ...[]int) api.Load {
	return api.Load{N: n, Table: t, Version: api.Version{Boot: boot, Load: n}, Acks: append(acks, make([][]int, 3-len(acks))...)}
}

// wants are posts of a load of the wide layout: pairs of a node and a shard.
func wants(x api.Load, pairs ...[2]int) (l []api.Post) {
	rows, _ := place.Split(wide(), x.Table)
	for _, p := range pairs {
		f := api.File{Table: x.Table.Name, Version: x.Version, Shard: p[1], Cols: x.Table.Cols, Rows: rows[p[1]]}
		l = append(l, post(p[0], api.Msg{Kind: api.MsgInstall, File: f})...)
	}
	return l
}

// every is all that a load wants of which nobody has anything.
func every(x api.Load) []api.Post {
	return wants(x, [2]int{1, 0}, [2]int{2, 0}, [2]int{2, 1}, [2]int{3, 1}, [2]int{1, 2}, [2]int{3, 2})
}

// told is the message that tells that a shard of x is kept.
func told(x api.Load, shard int) api.Msg {
	return api.Msg{Kind: api.MsgInstalled, File: api.File{Table: x.Table.Name, Version: x.Version, Shard: shard, Cols: x.Table.Cols}}
}

func beat(n uint64) api.Msg { return api.Msg{Kind: api.MsgBeat, Boot: n} }

func failed(n uint64, why api.Errno) api.Answer { return api.Answer{N: n, Why: why} }

// node is a coordinator that a test does something with.
type node struct {
	t *testing.T
	api.Coord
}

func (n *node) became(name string, c api.Coord, posts, want []api.Post) {
	n.t.Helper()
	if !alike(posts, want) {
		n.t.Errorf("%s: sent: %s", name, differ(posts, want))
	}
	if why := coord.Check(c); why != api.OK {
		n.t.Errorf("%s: the coordinator is not right: error %d", name, why)
	}
	for _, p := range posts {
		if wire.Check(p.Msg) != api.OK || p.To < 1 || p.To >= c.Layout.Nodes {
			n.t.Errorf("%s: %v can't be sent", name, p)
		}
	}
	n.Coord = c
}

// ask asks a query, and says what its number is, and what is sent then.
func (n *node) ask(name, query string, number uint64, want ...api.Post) {
	n.t.Helper()
	c, got, posts := coord.Ask(n.Coord, query)
	if got != number {
		n.t.Errorf("%s: the number is %d; not %d", name, got, number)
	}
	n.became(name, c, posts, want)
}

func (n *node) load(name string, t api.Table, number uint64, want ...api.Post) {
	n.t.Helper()
	c, got, posts := coord.Load(n.Coord, t)
	if got != number {
		n.t.Errorf("%s: the number is %d; not %d", name, got, number)
	}
	n.became(name, c, posts, want)
}

// receive hands a message on, and says what is sent then.
func (n *node) receive(name string, from int, m api.Msg, want ...api.Post) {
	n.t.Helper()
	c, posts := coord.Receive(n.Coord, from, m)
	n.became(name, c, posts, want)
}

func (n *node) tick(name string, want ...api.Post) {
	n.t.Helper()
	c, posts := coord.Tick(n.Coord)
	n.became(name, c, posts, want)
}

// is says how the coordinator is.
func (n *node) is(name string, want api.Coord) {
	n.t.Helper()
	if !alike(n.Coord, want) {
		n.t.Errorf("%s: the coordinator: %s", name, differ(n.Coord, want))
	}
}

// ignores says that a message changes nothing.
func (n *node) ignores(name string, from int, m api.Msg) {
	n.t.Helper()
	before := n.Coord
	n.receive(name, from, m)
	n.is(name, before)
}

// messages are right ones of each kind, each of which does something with a busy coordinator, where its kind does at all.
func messages() map[string]api.Msg {
	c := busy()
	return map[string]api.Msg{
		"Beat":      beat(99),
		"Start":     starts(c, c.Runs[0])[0].Msg,
		"Started":   {Kind: api.MsgStarted, Stream: api.Stream{Query: qid(c, 31), Attempt: 1, From: 0}},
		"Batch":     batches(link(c, c.Runs[0], 0), ts(0, 20))[0],
		"Ack":       ack(link(c, c.Runs[0], 0), 1),
		"Clean":     cleans(c, 31)[0].Msg,
		"Install":   every(c.Loads[0])[0].Msg,
		"Installed": told(c.Loads[0], 0),
		"Claims":    {Kind: api.MsgClaims, Claims: claims()},
	}
}

// busy is one that has queries and loads under way.
func busy() api.Coord {
	c := running(quiet(), all, shuffled, counted)
	c.Loads = []api.Load{load(35, table("t", ts(0, 9)), []int{2}, []int{2, 3}, []int{1, 3}), load(36, table("v", ts(0, 30)), nil, []int{2})}
	c.Answers = []api.Answer{{N: 12, Names: []string{"k"}, Rows: ts(0, 3)}, failed(13, api.ErrFull)}
	return c
}

// calls does everything with c that may be done, and says what comes of each.
func calls(c api.Coord, say func(name string, c api.Coord, n uint64, posts []api.Post)) {
	got, n, posts := coord.Ask(c, all)
	say("Ask", got, n, posts)
	got, n, posts = coord.Ask(c, "?")
	say("Ask of nothing", got, n, posts)
	got, n, posts = coord.Load(c, table("t", ts(0, 3)))
	say("Load", got, n, posts)
	got, n, posts = coord.Load(c, api.Table{})
	say("Load of nothing", got, n, posts)
	for name, m := range messages() {
		got, posts := coord.Receive(c, 1, m)
		say("Receive of a "+name, got, 0, posts)
	}
	got, posts = coord.Receive(c, 1, api.Msg{})
	say("Receive of nothing", got, 0, posts)
	got, posts = coord.Tick(c)
	say("Tick", got, 0, posts)
}

func TestCoordThatIsDown(t *testing.T) { // 18.1: it answers nothing and stays as it is
	c := busy()
	c.Disk.Down = true
	last := c
	last.Last = most
	for _, c := range []api.Coord{c, last} {
		calls(c, func(name string, got api.Coord, n uint64, posts []api.Post) {
			if !alike(got, c) || n != 0 || len(posts) > 0 {
				t.Errorf("%s: %d, %v, %s", name, n, posts, differ(got, c))
			}
		})
		if why := coord.Check(c); why != api.OK {
			t.Error("Check: error", why)
		}
	}
}

func TestCoordThatIsNotRight(t *testing.T) { // 18.1
	for what, c := range wrong() {
		for _, isDown := range []bool{false, true} {
			c.Disk.Down = isDown
			calls(c, func(name string, got api.Coord, n uint64, posts []api.Post) {
				if !alike(got, api.Coord{}) || n != 0 || len(posts) > 0 {
					t.Errorf("%s: %s: %v, %d, %v", what, name, got, n, posts)
				}
			})
		}
	}
}

func TestNoMessage(t *testing.T) { // 18.3: m not being right
	n := &node{t, busy()}
	for name, m := range messages() {
		wrong := m
		wrong.Claims = append(wrong.Claims, api.Claim{Owners: make([][]int, 65)})
		n.ignores(name+" with claims", 1, wrong)
		wrong = m
		wrong.Kind = api.MsgCount
		n.ignores(name+" of no kind", 1, wrong)
		wrong.Kind = api.MsgNone
		n.ignores(name+" of none", 1, wrong)
	}
	n.ignores("nothing", 1, api.Msg{})
	m := beat(99)
	m.Last = true
	n.ignores("a Beat that is the last", 1, m)
	m = messages()["Installed"]
	m.File.Rows = ts(0, 1)
	n.ignores("an Installed with rows", 1, m)
	m = messages()["Batch"]
	m.Rows = []api.Row{{{Kind: api.KindInt, S: "x"}}}
	n.ignores("a value that is not right", 1, m)
	m.Rows = slices.Repeat(ts(0, 1), 513)
	n.ignores("too many rows", 1, m)
	m = messages()["Batch"]
	m.Boot = 1
	n.ignores("a Batch with an opening", 1, m)
}

func TestOtherKinds(t *testing.T) { // 18.3: everything else: nothing
	n := &node{t, busy()}
	for _, kind := range []string{"Start", "Started", "Ack", "Clean", "Install", "Claims"} {
		for from := -1; from < 9; from++ {
			n.ignores(kind, from, messages()[kind])
		}
	}
}
