package world_test

import (
	"fmt"
	"math"
	"reflect"
	"strings"
	"testing"

	"potsherd/api"
	"potsherd/coord"
	"potsherd/wire"
	"potsherd/worker"
	"potsherd/world"
)

const most uint64 = math.MaxUint64

// wide is the layout of most of these tests: its shards are owned by 1 and 2, by 2 and 3, by 1 and 3.
func wide() api.Layout { return api.Layout{Nodes: 4, Shards: 3, Replicas: 2} }

func whole(n int) api.Value { return api.Value{Kind: api.KindInt, N: int64(n)} }

func text(s string) api.Value { return api.Value{Kind: api.KindText, S: s} }

// tidy is a new x whose empty lists are nil.
func tidy(x any) any {
	var walk func(v reflect.Value) reflect.Value
	walk = func(v reflect.Value) reflect.Value {
		out := reflect.New(v.Type()).Elem()
		out.Set(v)
		switch v.Kind() {
		case reflect.Slice:
			out.SetZero()
			if n := v.Len(); n > 0 {
				out.Set(reflect.MakeSlice(v.Type(), n, n))
			}
			for i := range v.Len() {
				out.Index(i).Set(walk(v.Index(i)))
			}
		case reflect.Struct:
			for i := range v.NumField() {
				out.Field(i).Set(walk(v.Field(i)))
			}
		}
		return out
	}
	return walk(reflect.ValueOf(x)).Interface()
}

// alike tells whether two things are, nil and empty lists being so.
func alike(a, b any) bool { return reflect.DeepEqual(tidy(a), tidy(b)) }

// differ tells where two things differ first, as they are too long to be told whole.
func differ(a, b any) string {
	var walk func(at string, x, y reflect.Value) string
	walk = func(at string, x, y reflect.Value) string {
		switch x.Kind() {
		case reflect.Slice:
			for i := range min(x.Len(), y.Len()) {
				if d := walk(fmt.Sprintf("%s[%d]", at, i), x.Index(i), y.Index(i)); d != "" {
					return d
				}
			}
			if x.Len() != y.Len() {
				return fmt.Sprintf("%s has %d parts; not %d", at, x.Len(), y.Len())
			}
		case reflect.Struct:
			for i := range x.NumField() {
				if d := walk(at+"."+x.Type().Field(i).Name, x.Field(i), y.Field(i)); d != "" {
					return d
				}
			}
		default:
			if !reflect.DeepEqual(x.Interface(), y.Interface()) {
				return fmt.Sprintf("%s is %.99v; not %.99v", at, x, y)
			}
		}
		return ""
	}
	return walk("", reflect.ValueOf(a), reflect.ValueOf(b))
}

// colsOf are the columns of a table of these tests.
func colsOf(table string) []api.Col {
	cols := []api.Col{{Name: "k", Kind: api.KindInt}, {Name: "s", Kind: api.KindText}}
	if table == "u" {
		cols[1] = api.Col{Name: "n", Kind: api.KindInt}
	}
	return cols
}

// table is one of n rows.
func table(name string, n int) api.Table {
	t := api.Table{Name: name, Cols: colsOf(name)}
	for i := range n {
		row := api.Row{whole(i), text(fmt.Sprint("text ", i))}
		if name == "u" {
			row[1] = whole(i % 5)
		}
		t.Rows = append(t.Rows, row)
	}
	return t
}

const (
	all      = "(from t)"
	counted  = "(from t (get (count) (sum k)))"
	joined   = "(from t (join u t.k u.k) (get s n))" // side by side
	shuffled = "(from t (join u t.k u.n) (get s n))"
)

// game is a world that a test does something with.
type game struct {
	t *testing.T
	api.World
}

func started(t *testing.T, l api.Layout) *game {
	t.Helper()
	w, why := world.New(l)
	if why != api.OK {
		t.Fatalf("New(%v): error %d", l, why)
	}
	return &game{t, w}
}

// became is the world behind something that must go well.
func (g *game) became(what string, w api.World, why api.Errno) {
	g.t.Helper()
	if why != api.OK || world.Check(w) != api.OK {
		g.t.Fatalf("%s: error %d; the world is right: %v", what, why, world.Check(w) == api.OK)
	}
	g.World = w
}

func (g *game) ask(text string) uint64 {
	g.t.Helper()
	w, n, why := world.Ask(g.World, text)
	g.became("Ask", w, why)
	return n
}

func (g *game) load(x api.Table) uint64 {
	g.t.Helper()
	w, n, why := world.Load(g.World, x)
	g.became("Load", w, why)
	return n
}

func (g *game) tick() {
	g.t.Helper()
	w, why := world.Tick(g.World)
	g.became("Tick", w, why)
}

func (g *game) deliver(i int) {
	g.t.Helper()
	w, why := world.Deliver(g.World, i)
	g.became("Deliver", w, why)
}

func (g *game) drop(i int) {
	g.t.Helper()
	w, why := world.Drop(g.World, i)
	g.became("Drop", w, why)
}

func (g *game) double(i int) {
	g.t.Helper()
	w, why := world.Copy(g.World, i)
	g.became("Copy", w, why)
}

func (g *game) crash(node, keep int) {
	g.t.Helper()
	w, why := world.Crash(g.World, node, keep)
	g.became("Crash", w, why)
}

func (g *game) restart(node int) {
	g.t.Helper()
	w, why := world.Restart(g.World, node)
	g.became("Restart", w, why)
}

func (g *game) fuse(node, fuse int) {
	g.t.Helper()
	w, why := world.Fuse(g.World, node, fuse)
	g.became("Fuse", w, why)
}

// empty delivers all that is under way, and what comes of it.
func (g *game) empty() {
	g.t.Helper()
	for steps := 0; len(g.Net.Packets) > 0; steps++ {
		if steps > 100000 {
			g.t.Fatal("there is no end of it")
		}
		g.deliver(0)
	}
}

// calm lets n ticks go by, between which all is delivered.
func (g *game) calm(n int) {
	g.t.Helper()
	for range n {
		g.empty()
		g.tick()
	}
	g.empty()
}

// is says how the world is.
func (g *game) is(what string, want api.World) {
	g.t.Helper()
	if !alike(g.World, want) {
		g.t.Errorf("%s: %s", what, differ(g.World, want))
	}
}

// filled is a calm world with two tables.
func filled(t *testing.T) *game {
	t.Helper()
	g := started(t, wide())
	g.calm(1)
	g.load(table("t", 20))
	g.load(table("u", 20))
	g.calm(1)
	if len(g.Answers) != 2 || g.Answers[0].Answer.Why != api.OK || g.Answers[1].Answer.Why != api.OK {
		t.Fatal("the tables are not published:", g.Answers)
	}
	return g
}

// busy is one with queries, a load and packets under way, and a worker that is down.
func busy(t *testing.T) *game {
	t.Helper()
	g := filled(t)
	g.ask(counted)
	g.calm(1)
	g.ask(all)
	g.ask(shuffled)
	for range 7 {
		g.deliver(0)
	}
	g.load(table("t", 30))
	g.double(1)
	g.crash(3, 0)
	g.tick()
	if len(g.Coord.Runs) != 2 || len(g.Coord.Loads) != 1 || len(g.Workers[0].Tasks) == 0 || len(g.Net.Packets) < 10 || len(g.Answers) != 3 {
		t.Fatal("it is not busy:", g.World)
	}
	return g
}

// packetsOf are what is under way, once a node's posts are sent.
func packetsOf(t *testing.T, from int, posts []api.Post) (l []api.Packet) {
	t.Helper()
	for _, p := range posts {
		s, why := wire.Write(p.Msg)
		if why != api.OK {
			t.Fatalf("%v is no message", p.Msg)
		}
		l = append(l, api.Packet{From: from, To: p.To, Text: s})
	}
	return l
}

// messageText is the text of a right message.
func messageText(m api.Msg) string {
	s, why := wire.Write(m)
	if why != api.OK {
		panic(fmt.Sprint("Write: error ", why))
	}
	return s
}

func beatText(n uint64) string { return messageText(api.Msg{Kind: api.MsgBeat, Boot: n}) }

// refused says that a call is refused, the world being as it was.
func refused(t *testing.T, what string, got, before api.World, why, want api.Errno) {
	t.Helper()
	if why != want {
		t.Errorf("%s: error %d; not %d", what, why, want)
	}
	if !alike(got, before) {
		t.Errorf("%s: the world is not as it was: %s", what, differ(got, before))
	}
}

func TestNew(t *testing.T) { // 19.1
	for _, l := range []api.Layout{wide(), {Nodes: 2, Shards: 1, Replicas: 1}, {Nodes: 8, Shards: 8, Replicas: 7}, {Nodes: 8, Shards: 1, Replicas: 1}} {
		w, why := world.New(l)
		want := api.World{}
		want.Coord, _ = coord.Start(l, api.Disk{Fuse: -1})
		for node := range l.Nodes {
			want.Up = append(want.Up, true)
			if node > 0 {
				x, _ := worker.Start(node, api.Disk{Fuse: -1})
				want.Workers = append(want.Workers, x)
			}
		}
		if why != api.OK || !alike(w, want) {
			t.Errorf("New(%v): error %d, %s", l, why, differ(w, want))
		}
		if why := world.Check(w); why != api.OK {
			t.Errorf("New(%v): Check: error %d", l, why)
		}
		for node := range l.Nodes {
			boot, d := w.Coord.Boot, w.Coord.Disk
			if node > 0 {
				boot, d = w.Workers[node-1].Boot, w.Workers[node-1].Disk
			}
			if boot != 1 || d.Down || d.Fuse != -1 || len(d.Files) != 1 || d.Files[0].Name != "boot" {
				t.Errorf("New(%v): node %d was opened %d times, its disk is %v", l, node, boot, d)
			}
		}
	}
}

func TestNewOfNoLayout(t *testing.T) { // 19.1
	for _, l := range []api.Layout{{}, {Nodes: 1, Shards: 1, Replicas: 1}, {Nodes: 9, Shards: 1, Replicas: 1}, {Nodes: 2, Shards: 0, Replicas: 1}, {Nodes: 2, Shards: 9, Replicas: 1}, {Nodes: 2, Shards: 1, Replicas: 0}, {Nodes: 2, Shards: 1, Replicas: 2}, {Nodes: math.MaxInt, Shards: math.MaxInt, Replicas: math.MaxInt}, {Nodes: math.MinInt, Shards: -1, Replicas: -1}} {
		if w, why := world.New(l); why != api.ErrRange || !alike(w, api.World{}) {
			t.Errorf("New(%v): error %d, %v", l, why, w)
		}
	}
}

func TestExample(t *testing.T) { // 19.2, 19.3
	for ticks, want := range []api.Errno{api.ErrUnavailable, api.OK} {
		g := started(t, wide())
		for range ticks {
			g.tick()
		}
		g.empty()
		if n := g.load(table("t", 9)); n != 1 {
			t.Error("the load's number is", n)
		}
		g.empty()
		g.tick()
		if len(g.Answers) != 1 || !alike(g.Answers[0], api.Told{Boot: 1, Answer: api.Answer{N: 1, Why: want}}) {
			t.Errorf("behind %d ticks the load is answered %v", ticks, g.Answers)
		}
	}
}

func TestWhole(t *testing.T) { // 19.2, 19.3, P6, P7
	g := filled(t)
	for i, query := range []string{all, counted, joined, shuffled} {
		n := g.ask(query)
		g.calm(3)
		if n != uint64(3+i) || len(g.Answers) != 3+i {
			t.Fatalf("%s: the number is %d, there are %d answers", query, n, len(g.Answers))
		}
		a := g.Answers[2+i]
		if a.Boot != 1 || a.Answer.N != n || a.Answer.Why != api.OK {
			t.Errorf("%s: %v", query, a)
		}
	}
	got := g.Answers[3].Answer
	if want := (api.Answer{N: 4, Names: []string{"c1", "c2"}, Rows: []api.Row{{whole(20), whole(190)}}}); !alike(got, want) {
		t.Errorf("%v; not %v", got, want)
	}
	for i, n := range []int{20, 1, 20, 20} { // of u.n there are five, and each of them is in t.k once
		if got := len(g.Answers[2+i].Answer.Rows); got != n {
			t.Errorf("answer %d has %d rows; not %d", 2+i, got, n)
		}
	}
}

func TestAsk(t *testing.T) { // 19.2
	for _, query := range []string{all, shuffled, "(from", "(from z)", "", strings.Repeat(" ", 2049)} {
		for name, g := range map[string]*game{"filled": filled(t), "busy": busy(t), "new": started(t, wide())} {
			c, n, posts := coord.Ask(g.Coord, query)
			want := tidy(g.World).(api.World)
			want.Net.Packets = append(want.Net.Packets, packetsOf(t, 0, posts)...)
			for _, a := range c.Answers {
				want.Answers = append(want.Answers, api.Told{Boot: 1, Answer: a})
			}
			c.Answers = nil
			want.Coord = c
			if got := g.ask(query); got != n || n != g.Coord.Last || n == 0 {
				t.Errorf("%s: %.20q: the number is %d; not %d", name, query, got, n)
			}
			g.is(name+": "+query, want)
		}
	}
}

func TestAskedAtOnce(t *testing.T) { // 19.2: what fails is answered at once, with its number
	g := started(t, wide())
	g.ask("(from")
	g.ask("(from z)")
	g.ask(strings.Repeat(" ", 2049))
	g.load(api.Table{})
	g.crash(0, 0)
	g.restart(0)
	g.ask("(from")
	want := []api.Told{{Boot: 1, Answer: api.Answer{N: 1, Why: api.ErrSyntax}}, {Boot: 1, Answer: api.Answer{N: 2, Why: api.ErrName}}, {Boot: 1, Answer: api.Answer{N: 3, Why: api.ErrLong}}, {Boot: 1, Answer: api.Answer{N: 4, Why: api.ErrLong}}, {Boot: 2, Answer: api.Answer{N: 1, Why: api.ErrSyntax}}}
	if !alike(g.Answers, want) {
		t.Errorf("%v; not %v", g.Answers, want)
	}
	if len(g.Coord.Answers) > 0 || len(g.Net.Packets) > 0 {
		t.Error("the coordinator has answers still, or packets are under way:", g.World)
	}
}

func TestLoad(t *testing.T) { // 19.2
	for _, x := range []api.Table{table("t", 9), table("v", 64), table("v", 65), {}} {
		for name, g := range map[string]*game{"filled": filled(t), "busy": busy(t), "new": started(t, wide())} {
			c, n, posts := coord.Load(g.Coord, x)
			want := tidy(g.World).(api.World)
			want.Net.Packets = append(want.Net.Packets, packetsOf(t, 0, posts)...)
			for _, a := range c.Answers {
				want.Answers = append(want.Answers, api.Told{Boot: 1, Answer: a})
			}
			c.Answers = nil
			want.Coord = c
			if got := g.load(x); got != n || n != g.Coord.Last || n == 0 {
				t.Errorf("%s: the number is %d; not %d", name, got, n)
			}
			g.is(name+": "+x.Name, want)
		}
	}
}

// orders says what comes of a query and of a load.
func orders(w api.World, say func(what string, w api.World, n uint64, why api.Errno)) {
	for _, query := range []string{all, "(from"} {
		got, n, why := world.Ask(w, query)
		say("Ask "+query, got, n, why)
	}
	for _, x := range []api.Table{table("t", 3), {}} {
		got, n, why := world.Load(w, x)
		say("Load "+x.Name, got, n, why)
	}
}

func TestOrdersThatAreNotTaken(t *testing.T) { // 19.2: node 0 is not up; the number is 0
	down, spent, last := busy(t), busy(t), busy(t)
	down.crash(0, 3)
	spent.Coord.Disk.Down = true
	last.Coord.Last = most
	for name, g := range map[string]*game{"node 0 is down": down, "its power is gone": spent, "there is no number left": last} {
		before := tidy(g.World).(api.World)
		orders(g.World, func(what string, w api.World, n uint64, why api.Errno) {
			refused(t, name+": "+what, w, before, why, api.ErrDown)
			if n != 0 {
				t.Errorf("%s: %s: the number is %d", name, what, n)
			}
		})
	}
	last.Coord.Last--
	orders(last.World, func(what string, w api.World, n uint64, why api.Errno) {
		if n != most || why != api.OK || world.Check(w) != api.OK {
			t.Errorf("%s: the number is %d, error %d", what, n, why)
		}
	})
}

func TestOrdersWhenThePowerGoes(t *testing.T) { // 19.2: what burns out a coordinator's disk is told by the next order
	g := filled(t)
	g.load(table("t", 5))
	g.fuse(0, 2)
	g.empty()
	if len(g.Answers) != 2 || !g.Coord.Disk.Down || !g.Up[0] {
		t.Fatal("the load is published:", g.Answers)
	}
	if _, n, why := world.Ask(g.World, all); n != 0 || why != api.ErrDown {
		t.Errorf("the number is %d, error %d", n, why)
	}
	before := tidy(g.World).(api.World)
	g.tick()
	before.Workers = g.Workers
	before.Net = api.Net{}
	for i := range g.Workers {
		before.Net.Packets = append(before.Net.Packets, api.Packet{From: i + 1, To: 0, Text: beatText(1)})
	}
	g.is("a tick without power", before)
	g.crash(0, 0)
	g.restart(0)
	g.calm(1)
	g.ask(counted)
	g.calm(2)
	if a := g.Answers[len(g.Answers)-1]; a.Boot != 2 || a.Answer.N != 1 || a.Answer.Why != api.OK || a.Answer.Rows[0][0] != whole(20) {
		t.Error("behind the crash:", a)
	}
}
