package worker_test

import (
	"fmt"
	"math"
	"reflect"
	"strings"
	"testing"

	"potsherd/api"
	"potsherd/bind"
	"potsherd/disk"
	"potsherd/files"
	"potsherd/parse"
	"potsherd/stream"
	"potsherd/wire"
	"potsherd/worker"
)

const most uint64 = math.MaxUint64

// me is the node that these tests are about.
const me = 2

// attempt is one that has others ahead of it and behind.
const attempt = 5

func mine() api.Qid         { return api.Qid{Boot: 1, N: 1} }
func theirs() api.Qid       { return api.Qid{Boot: 1, N: 2} }
func version() api.Version  { return api.Version{Boot: 3, Load: 4} }
func whole(n int) api.Value { return api.Value{Kind: api.KindInt, N: int64(n)} }

// tidy is a new x whose empty lists are nil.
func tidy(x any) any {
	var walk func(v reflect.Value) reflect.Value
	walk = func(v reflect.Value) reflect.Value {
		out := reflect.New(v.Type()).Elem()
		out.Set(v)
		switch v.Kind() {
		case reflect.Slice:
			out.SetZero()
			for i := range v.Len() {
				out.Set(reflect.Append(out, walk(v.Index(i))))
			}
		case reflect.Struct:
			for i := range v.NumField() {
				out.Field(i).Set(walk(v.Field(i)))
			}
		}
		return out
	}
	return walk(reflect.ValueOf(x)).Interface()
}

// alike tells whether two things are, nil and empty lists being so.
func alike(a, b any) bool { return reflect.DeepEqual(tidy(a), tidy(b)) }

// differ tells where two things differ first, as they are too long to be told whole.
func differ(a, b any) string {
	var walk func(at string, x, y reflect.Value) string
	walk = func(at string, x, y reflect.Value) string {
		switch x.Kind() {
		case reflect.Slice:
			for i := range min(x.Len(), y.Len()) {
				if d := walk(fmt.Sprintf("%s[%d]", at, i), x.Index(i), y.Index(i)); d != "" {
					return d
				}
			}
			if x.Len() != y.Len() {
				return fmt.Sprintf("%s has %d parts; not %d", at, x.Len(), y.Len())
			}
		case reflect.Struct:
			for i := range x.NumField() {
				if d := walk(at+"."+x.Type().Field(i).Name, x.Field(i), y.Field(i)); d != "" {
					return d
				}
			}
		default:
			if !reflect.DeepEqual(x.Interface(), y.Interface()) {
				return fmt.Sprintf("%s is %.99v; not %.99v", at, x, y)
			}
		}
		return ""
	}
	return walk("", reflect.ValueOf(a), reflect.ValueOf(b))
}

// catalog is the tables of these tests.
func catalog() []api.Table {
	return []api.Table{
		{Name: "t", Cols: []api.Col{{Name: "k", Kind: api.KindInt}, {Name: "s", Kind: api.KindText}}},
		{Name: "u", Cols: []api.Col{{Name: "k", Kind: api.KindInt}, {Name: "n", Kind: api.KindInt}}},
	}
}

func bound(query string) api.Bound {
	q, why, _ := parse.Parse(query)
	b, why1 := bind.Bind(q, catalog())
	if why != api.OK || why1 != api.OK {
		panic(fmt.Sprintf("%s: errors %d, %d", query, why, why1))
	}
	return b
}

const (
	all    = "(from t)"
	joined = "(from t (join u t.k u.k) (get s n))"
)

// ts and us are rows of the tables.
func ts(from, to int) (l []api.Row) {
	for i := from; i < to; i++ {
		l = append(l, api.Row{whole(i), {Kind: api.KindText, S: fmt.Sprint("text ", i)}})
	}
	return l
}

func us(from, to int) (l []api.Row) {
	for i := from; i < to; i++ {
		l = append(l, api.Row{whole(i), whole(10 * i)})
	}
	return l
}

func file(table string, shard int, rows []api.Row) api.File {
	f := api.File{Table: table, Version: version(), Shard: shard, Rows: rows}
	for _, t := range catalog() {
		if t.Name == table {
			f.Cols = t.Cols
		}
	}
	return f
}

// kept are the shards that the worker of these tests has.
func kept() []api.File {
	return []api.File{file("t", 0, ts(0, 40)), file("t", 1, nil), file("u", 0, us(0, 9))}
}

// full is a disk with all of them.
func full() api.Disk {
	d := api.Disk{Fuse: -1}
	for _, f := range kept() {
		d, _ = files.Install(d, f)
	}
	return d
}

func shard(table string, n int) api.Src {
	return api.Src{Kind: api.SrcShard, Table: table, Version: version(), Shard: n}
}

func sent(frags ...int) api.Src { return api.Src{Kind: api.SrcFrags, Frags: frags} }

// nodes are those of the fragments of a query: the last two are nowhere.
func nodes() []int { return []int{1, me, 3, me, 7, me, 0, 8, -1} }

// The fragments of these tests, all on this node.

func scan() api.Frag { return api.Frag{Id: 1, Node: me, Left: shard("t", 0)} }

func spread(to ...int) api.Frag {
	return api.Frag{Id: 3, Node: me, Left: shard("u", 0), Raw: true, By: -1, To: to}
}

func join(left, right api.Src) api.Frag { return api.Frag{Id: 5, Node: me, Left: left, Right: right} }

// ask is a Start of my query.
func ask(query string, f api.Frag) api.Msg {
	return api.Msg{Kind: api.MsgStart, Stream: api.Stream{Query: mine(), Attempt: attempt}, Bound: bound(query), Catalog: catalog(), Frag: f, Nodes: nodes()}
}

func inAttempt(n int, m api.Msg) api.Msg {
	m.Stream.Attempt = n
	return m
}

func ofQuery(q api.Qid, m api.Msg) api.Msg {
	m.Stream.Query = q
	return m
}

// link is a stream of my query.
func link(from, to int) api.Stream {
	return api.Stream{Query: mine(), Attempt: attempt, From: from, To: to}
}

func out(s api.Stream, rows []api.Row, acked uint64) api.Out {
	o, why := stream.Cut(s, rows)
	if why != api.OK {
		panic(fmt.Sprint("Cut: error ", why))
	}
	o.Acked = acked
	return o
}

// batches are all messages of a stream.
func batches(s api.Stream, rows []api.Row) (l []api.Msg) {
	o := out(s, rows, 0)
	for i, b := range o.Batches {
		l = append(l, api.Msg{Kind: api.MsgBatch, Stream: s, Seq: uint64(i), Last: i == len(o.Batches)-1, Rows: b})
	}
	return l
}

func ack(s api.Stream, seq uint64) api.Msg {
	return api.Msg{Kind: api.MsgAck, Stream: s, Seq: seq}
}

func clean(q api.Qid) api.Msg {
	return api.Msg{Kind: api.MsgClean, Stream: api.Stream{Query: q}}
}

func install(f api.File) api.Msg { return api.Msg{Kind: api.MsgInstall, File: f} }

func installed(f api.File) api.Msg {
	f.Rows = nil
	return api.Msg{Kind: api.MsgInstalled, File: f}
}

func post(to int, l ...api.Msg) (posts []api.Post) {
	for _, m := range l {
		posts = append(posts, api.Post{To: to, Msg: m})
	}
	return posts
}

// begun is the post that tells that a fragment of my query is taken on.
func begun(frag int) []api.Post {
	return post(0, api.Msg{Kind: api.MsgStarted, Stream: api.Stream{Query: mine(), Attempt: attempt, From: frag}})
}

// task is what becomes of a Start.
func task(m api.Msg, seen uint64, ins []api.In, outs ...api.Out) api.Task {
	return api.Task{Query: m.Stream.Query, Attempt: m.Stream.Attempt, Bound: m.Bound, Catalog: m.Catalog, Frag: m.Frag, Nodes: m.Nodes, Ins: ins, Outs: outs, Ran: len(outs) > 0, Seen: seen}
}

// opened is a worker with all shards, to which nothing happened yet, at that time.
func opened(now uint64, tasks ...api.Task) api.Worker {
	return api.Worker{Id: me, Boot: 6, Disk: full(), Now: now, Tasks: tasks}
}

// node is a worker that a test does something with.
type node struct {
	t *testing.T
	api.Worker
}

func (n *node) became(name string, w api.Worker, posts, want []api.Post) {
	n.t.Helper()
	if !alike(posts, want) {
		n.t.Errorf("%s: sent: %s", name, differ(posts, want))
	}
	if why := worker.Check(w); why != api.OK {
		n.t.Errorf("%s: the worker is not right: error %d", name, why)
	}
	for _, p := range posts {
		if wire.Check(p.Msg) != api.OK || p.To < 0 || p.To > 7 {
			n.t.Errorf("%s: %v can't be sent", name, p)
		}
	}
	n.Worker = w
}

// receive hands a message on, and says what is sent then.
func (n *node) receive(name string, from int, m api.Msg, want ...api.Post) {
	n.t.Helper()
	w, posts := worker.Receive(n.Worker, from, m)
	n.became(name, w, posts, want)
}

func (n *node) tick(name string, want ...api.Post) {
	n.t.Helper()
	w, posts := worker.Tick(n.Worker)
	n.became(name, w, posts, want)
}

// is says how the worker is.
func (n *node) is(name string, want api.Worker) {
	n.t.Helper()
	if !alike(n.Worker, want) {
		n.t.Errorf("%s: the worker: %s", name, differ(n.Worker, want))
	}
}

// has says which tasks the worker has.
func (n *node) has(name string, want ...api.Task) {
	n.t.Helper()
	if !alike(n.Tasks, want) {
		n.t.Errorf("%s: the tasks: %s", name, differ(n.Tasks, want))
	}
}

// ignores says that a message changes nothing.
func (n *node) ignores(name string, from int, m api.Msg) {
	n.t.Helper()
	before := n.Worker
	n.receive(name, from, m)
	n.is(name, before)
}

func TestStart(t *testing.T) { // 16.1
	for id := 1; id <= 7; id++ {
		d := api.Disk{Fuse: -1}
		for boot := uint64(1); boot <= 3; boot++ {
			want, n, _ := files.Open(d)
			w, why := worker.Start(id, d)
			if why != api.OK || n != boot || !alike(w, api.Worker{Id: id, Boot: boot, Disk: want}) || worker.Check(w) != api.OK {
				t.Errorf("Start(%d) is %v, error %d", id, w, why)
			}
			d = w.Disk
		}
	}
	w, why := worker.Start(me, full())
	if why != api.OK || len(w.Disk.Files) != 4 || w.Boot != 1 {
		t.Errorf("Start is %v, error %d", w, why)
	}
}

// broken are disks with which no worker starts, but for what ErrState tells, and why.
func broken() map[string]struct {
	disk api.Disk
	why  api.Errno
} {
	boot := func(text string) api.DiskFile { return api.DiskFile{Name: "boot", Data: text, Synced: len(text)} }
	last, _ := wire.Write(api.Msg{Kind: api.MsgBeat, Boot: most})
	old := api.DiskFile{Name: "tmp", Data: "x"}
	big := api.DiskFile{Name: "big", Data: strings.Repeat("x", 1<<20)}
	return map[string]struct {
		disk api.Disk
		why  api.Errno
	}{
		"down":                   {api.Disk{Down: true, Fuse: -1, Files: full().Files}, api.ErrDown},
		"no power":               {api.Disk{}, api.ErrDown},
		"power for a step":       {api.Disk{Fuse: 1}, api.ErrDown},
		"power for two":          {api.Disk{Fuse: 2}, api.ErrDown},
		"power for a drop alone": {api.Disk{Fuse: 1, Files: []api.DiskFile{old}}, api.ErrDown},
		"no power for a drop":    {api.Disk{Files: []api.DiskFile{old}}, api.ErrDown},
		"no openings":            {api.Disk{Fuse: -1, Files: []api.DiskFile{boot("")}}, api.ErrWire},
		"something else":         {api.Disk{Fuse: -1, Files: []api.DiskFile{boot("\x01\xac\x02\x00")}}, api.ErrWire},
		"as many as may be":      {api.Disk{Fuse: -1, Files: []api.DiskFile{boot(last), old}}, api.ErrRange},
		"no room":                {api.Disk{Fuse: -1, Files: []api.DiskFile{big}}, api.ErrFull},
	}
}

func TestStartErrors(t *testing.T) { // 16.1, P2
	for name, x := range broken() {
		want, _, _ := files.Open(x.disk)
		w, why := worker.Start(me, x.disk)
		if why != x.why || !alike(w, api.Worker{Id: me, Disk: want}) {
			t.Errorf("%s: Start is %v, error %d; not %v, error %d", name, w, why, want, x.why)
		}
		if why := worker.Check(w); why != api.OK { // such a worker is right, too
			t.Errorf("%s: error %d", name, why)
		}
	}
	for name, d := range wrongDisks() {
		if w, why := worker.Start(me, d); why != api.ErrState || !alike(w, api.Worker{}) {
			t.Errorf("%s: Start is %v, error %d", name, w, why)
		}
	}
}

func wrongDisks() map[string]api.Disk {
	return map[string]api.Disk{
		"no name":              {Fuse: -1, Files: []api.DiskFile{{}}},
		"no name, and down":    {Down: true, Files: []api.DiskFile{{}}},
		"more safe than there": {Fuse: -1, Files: []api.DiskFile{{Name: "a", Synced: 1}}},
		"two of a name":        {Fuse: -1, Files: []api.DiskFile{{Name: "a"}, {Name: "a"}}},
		"not by name":          {Fuse: -1, Files: []api.DiskFile{{Name: "b"}, {Name: "a"}}},
		"too much":             {Fuse: -1, Files: []api.DiskFile{{Name: "a", Data: strings.Repeat("x", 1<<20+1)}}},
	}
}

func TestStartOfNoWorker(t *testing.T) { // 16.1, P3: ErrRange is told first
	disks := wrongDisks()
	disks["right"] = api.Disk{Fuse: -1}
	disks["down"] = api.Disk{Down: true}
	for name, d := range disks {
		for _, id := range []int{0, -1, 8, 9, math.MaxInt, math.MinInt} {
			if w, why := worker.Start(id, d); why != api.ErrRange || !alike(w, api.Worker{}) {
				t.Errorf("%s: Start(%d) is %v, error %d", name, id, w, why)
			}
		}
	}
}

// messages are right ones of each kind, each of which does something with a worker that is idle, where its kind does at all.
func messages() map[string]api.Msg {
	return map[string]api.Msg{
		"Beat":      {Kind: api.MsgBeat, Boot: 9},
		"Start":     ask(all, scan()),
		"Started":   begun(1)[0].Msg,
		"Batch":     batches(link(0, 5), us(0, 20))[0],
		"Ack":       ack(link(1, -1), 2),
		"Clean":     clean(mine()),
		"Install":   install(file("t", 2, ts(0, 3))),
		"Installed": installed(file("t", 0, nil)),
		"Claims":    {Kind: api.MsgClaims},
	}
}

// idle is a worker that a Batch, an Ack, a Clean of my query would change, and a tick.
func idle() api.Worker {
	waits := ask(joined, join(shard("t", 0), sent(0)))
	ran := ask(all, scan())
	ran.Frag.Id = 3
	return opened(20,
		task(waits, 15, []api.In{{Stream: link(0, 5)}}),
		task(ran, 16, nil, out(link(3, -1), ts(0, 40), 1)))
}

func TestWorkerThatIsDown(t *testing.T) { // 16.1: it answers nothing and stays as it is
	w := idle()
	w.Disk.Down = true
	n := &node{t, w}
	for name, m := range messages() {
		n.ignores(name, 0, m)
	}
	n.ignores("an Ack", 1, ack(link(3, -1), 4))
	for range 20 {
		n.tick("down")
		n.is("a tick", w)
	}
	if why := worker.Check(w); why != api.OK {
		t.Error("Check: error", why)
	}
}

func TestWorkerThatIsNotRight(t *testing.T) { // 16.1
	for name, w := range wrong() {
		for _, isDown := range []bool{false, true} {
			w.Disk.Down = isDown
			for kind, m := range messages() {
				if got, posts := worker.Receive(w, 0, m); !alike(got, api.Worker{}) || len(posts) > 0 {
					t.Errorf("%s: Receive of a %s is %v, %v", name, kind, got, posts)
				}
			}
			if got, posts := worker.Receive(w, 0, api.Msg{}); !alike(got, api.Worker{}) || len(posts) > 0 {
				t.Errorf("%s: Receive of no message is %v, %v", name, got, posts)
			}
			if got, posts := worker.Tick(w); !alike(got, api.Worker{}) || len(posts) > 0 {
				t.Errorf("%s: Tick is %v, %v", name, got, posts)
			}
		}
	}
}

func TestNoMessage(t *testing.T) { // 16.2, 16.6: what is not right by wire.Check
	n := &node{t, idle()}
	for name, m := range messages() {
		m.Claims = append(m.Claims, api.Claim{Owners: make([][]int, 65)})
		n.ignores(name+" with claims", 0, m)
		m.Claims, m.Kind = nil, api.MsgCount
		n.ignores(name+" of no kind", 0, m)
	}
	n.ignores("nothing", 0, api.Msg{})
	m := ask(all, scan())
	m.Nodes = make([]int, 65)
	n.ignores("too many nodes", 0, m)
	m = ask(all, scan())
	m.Stream.From = 1
	n.ignores("a Start with a From", 0, m)
	m = ask(all, scan())
	m.Catalog[0].Rows = ts(0, 1)
	n.ignores("a catalog with rows", 0, m)
	m = clean(mine())
	m.Stream.Attempt = attempt
	n.ignores("a Clean with an attempt", 0, m)
	m = batches(link(0, 5), us(0, 3))[0]
	m.Rows[0][0].S = "x"
	n.ignores("a value that is not right", 1, m)
	m = ack(link(3, -1), 3)
	m.Last = true
	n.ignores("an Ack that is the last", 0, m)
	m = install(file("t", 2, ts(0, 3)))
	m.File.Table = strings.Repeat("x", 2049)
	n.ignores("a table's name that is too long", 0, m)
}

func TestOtherKinds(t *testing.T) { // 16.2: everything else: nothing
	n := &node{t, idle()}
	for _, kind := range []string{"Beat", "Started", "Installed", "Claims"} {
		for from := -1; from < 9; from++ {
			n.ignores(kind, from, messages()[kind])
		}
	}
	if why := disk.Check(n.Disk); why != api.OK {
		t.Error("the disk: error", why)
	}
}
