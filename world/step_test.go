package world_test

import (
	"fmt"
	"math"
	"slices"
	"strings"
	"testing"

	"potsherd/api"
	"potsherd/coord"
	"potsherd/worker"
	"potsherd/world"
)

// ticked is how w is to be a tick later.
func ticked(t *testing.T, w api.World) api.World {
	t.Helper()
	w = tidy(w).(api.World)
	if w.Up[0] {
		c, posts := coord.Tick(w.Coord)
		w.Net.Packets = append(w.Net.Packets, packetsOf(t, 0, posts)...)
		for _, a := range c.Answers {
			w.Answers = append(w.Answers, api.Told{Boot: c.Boot, Answer: a})
		}
		c.Answers = nil
		w.Coord = c
	}
	for i := range w.Workers {
		if w.Up[i+1] {
			var posts []api.Post
			w.Workers[i], posts = worker.Tick(w.Workers[i])
			w.Net.Packets = append(w.Net.Packets, packetsOf(t, i+1, posts)...)
		}
	}
	return w
}

func TestTick(t *testing.T) { // 19.2
	for name, g := range map[string]*game{"new": started(t, wide()), "filled": filled(t), "busy": busy(t)} {
		for i := range 12 {
			want := ticked(t, g.World)
			g.tick()
			g.is(fmt.Sprint(name, ", tick ", i), want)
		}
	}
	g := started(t, wide())
	g.tick()
	want := []api.Packet{{From: 1, To: 0, Text: beatText(1)}, {From: 2, To: 0, Text: beatText(1)}, {From: 3, To: 0, Text: beatText(1)}}
	if !slices.Equal(g.Net.Packets, want) || g.Coord.Now != 1 || g.Workers[2].Now != 1 {
		t.Error("the first tick:", g.Net, g.Coord.Now)
	}
}

func TestTickOfNodesThatAreDown(t *testing.T) { // 19.2
	for down := range 4 {
		g := busy(t)
		if down != 3 { // it is already
			g.crash(down, 0)
		}
		want := ticked(t, g.World)
		g.tick()
		g.is(fmt.Sprint("node ", down, " is down"), want)
		if g.Coord.Now > 0 != g.Up[0] || g.Workers[2].Now != 0 {
			t.Errorf("node %d is down: the times are %d, %d", down, g.Coord.Now, g.Workers[2].Now)
		}
	}
	g := started(t, wide())
	for node := range 4 {
		g.crash(node, 0)
	}
	before := g.World
	g.tick()
	g.is("all are down", before)
}

func TestTickTells(t *testing.T) { // 19.2: what a tick answers is told
	g := filled(t)
	g.ask(all)
	g.ask(counted)
	g.load(table("t", 3))
	for node := 1; node < 4; node++ {
		g.crash(node, 0)
	}
	for len(g.Net.Packets) > 0 {
		g.drop(0)
	}
	for ticks := 0; len(g.Answers) < 5; ticks++ {
		if g.tick(); ticks > 8 {
			t.Fatal("nothing is answered:", g.Answers)
		}
	}
	for i, n := range []uint64{3, 4, 5} { // runs are gone through ahead of loads
		if a := g.Answers[2+i]; !alike(a, api.Told{Boot: 1, Answer: api.Answer{N: n, Why: api.ErrUnavailable}}) {
			t.Errorf("answer %d is %v", 2+i, a)
		}
	}
	if len(g.Coord.Answers)+len(g.Coord.Runs)+len(g.Coord.Loads) > 0 {
		t.Error("the coordinator has not told all:", g.Coord)
	}
}

// delivered is how w is to be once the packet at i came, which is a message's.
func delivered(t *testing.T, w api.World, i int, m api.Msg) api.World {
	t.Helper()
	w = tidy(w).(api.World)
	p := w.Net.Packets[i]
	w.Net.Packets = slices.Delete(w.Net.Packets, i, i+1)
	var posts []api.Post
	if p.To == 0 {
		w.Coord, posts = coord.Receive(w.Coord, p.From, m)
		for _, a := range w.Coord.Answers {
			w.Answers = append(w.Answers, api.Told{Boot: w.Coord.Boot, Answer: a})
		}
		w.Coord.Answers = nil
	} else {
		w.Workers[p.To-1], posts = worker.Receive(w.Workers[p.To-1], p.From, m)
	}
	w.Net.Packets = append(w.Net.Packets, packetsOf(t, p.To, posts)...)
	return w
}

func TestDeliver(t *testing.T) { // 19.3
	m := api.Msg{Kind: api.MsgClean, Stream: api.Stream{Query: api.Qid{Boot: 1, N: 4}}}
	install := api.Msg{Kind: api.MsgInstall, File: api.File{Table: "v", Version: api.Version{Boot: 1, Load: 9}, Cols: colsOf("v")}}
	for i := range 4 {
		for from := range 8 {
			for _, m := range []api.Msg{m, install, {Kind: api.MsgBeat, Boot: 7}} {
				for to := range 3 {
					g := busy(t)
					g.Net.Packets = slices.Insert(g.Net.Packets, i, api.Packet{From: from, To: to, Text: messageText(m)})
					want := delivered(t, g.World, i, m)
					g.deliver(i)
					g.is(fmt.Sprintf("message %d of node %d to node %d", m.Kind, from, to), want)
				}
			}
		}
	}
	g := busy(t)
	g.Net.Packets = append(g.Net.Packets, api.Packet{From: 1, To: 0, Text: beatText(7)}, api.Packet{From: 0, To: 2, Text: messageText(m)})
	g.deliver(len(g.Net.Packets) - 2)
	g.deliver(len(g.Net.Packets) - 1)
	if g.Coord.Leases.Boots[1] != 7 || !slices.Contains(g.Workers[1].Over.Ids, m.Stream.Query) || len(g.Workers[0].Over.Ids) != 1 {
		t.Error("what was delivered did not come:", g.Coord.Leases, g.Workers[1].Over)
	}
}

func TestDeliverToNobody(t *testing.T) { // 19.3: to no node, to one that is down, of no message
	clean := messageText(api.Msg{Kind: api.MsgClean, Stream: api.Stream{Query: api.Qid{Boot: 1, N: 9}}})
	for name, p := range map[string]api.Packet{
		"to no node":          {From: 0, To: 4, Text: clean},
		"to the last number":  {From: 0, To: 7, Text: clean},
		"to one that is down": {From: 0, To: 3, Text: clean},
		"no message":          {From: 0, To: 1, Text: "?"},
		"a message cut short": {From: 0, To: 1, Text: clean[:len(clean)-1]},
		"with a byte more":    {From: 0, To: 1, Text: clean + "\x00"},
		"nothing":             {From: 0, To: 1, Text: ""},
		"nothing to node 0":   {From: 1, To: 0, Text: ""},
		"the greatest text":   {From: 1, To: 0, Text: strings.Repeat("\x01", 65536)},
	} {
		g := busy(t)
		before := tidy(g.World).(api.World)
		g.Net.Packets = slices.Insert(g.Net.Packets, 2, p)
		g.deliver(2)
		g.is(name, before)
	}
	g := busy(t)
	g.crash(0, 0)
	before := tidy(g.World).(api.World)
	g.Net.Packets = slices.Insert(g.Net.Packets, 0, api.Packet{From: 1, To: 0, Text: beatText(7)})
	g.deliver(0)
	g.is("to node 0 that is down", before)
}

func TestDeliverOfNoNode(t *testing.T) { // 19.3: a packet of a node that the world has not
	g := started(t, wide())
	g.Net.Packets = []api.Packet{{From: 7, To: 0, Text: beatText(7)}}
	before := tidy(g.World).(api.World)
	before.Net.Packets = nil
	g.deliver(0)
	g.is("a beat of no node", before)
}

func TestDeliveredAnswers(t *testing.T) { // 19.3: new answers are told in their order, each once, with the Boot
	g := filled(t)
	g.crash(0, 0)
	g.restart(0)
	g.calm(1)
	g.ask(all)
	g.ask(counted)
	told := len(g.Answers)
	for steps := 0; len(g.Net.Packets) > 0; steps++ {
		g.deliver(0)
		if len(g.Coord.Answers) > 0 {
			t.Fatal("the coordinator has answers")
		}
	}
	if len(g.Answers) != told+2 {
		t.Fatal("there are", len(g.Answers), "answers")
	}
	for i, a := range g.Answers[told:] {
		if a.Boot != 2 || a.Answer.N != uint64(1+i) || a.Answer.Why != api.OK {
			t.Errorf("answer %d is %v", i, a)
		}
	}
}

func TestDropAndCopy(t *testing.T) { // 19.3
	g := busy(t)
	n := len(g.Net.Packets)
	for _, i := range []int{0, 3, n - 1} {
		g := &game{t, g.World}
		want := tidy(g.World).(api.World)
		want.Net.Packets = slices.Delete(want.Net.Packets, i, i+1)
		g.drop(i)
		g.is("Drop", want)
		g = busy(t)
		want = tidy(g.World).(api.World)
		want.Net.Packets = append(want.Net.Packets, want.Net.Packets[i])
		g.double(i)
		g.is("Copy", want)
	}
}

func TestNoSuchPacket(t *testing.T) { // 19.3
	for name, g := range map[string]*game{"busy": busy(t), "new": started(t, wide())} {
		for _, i := range []int{-1, len(g.Net.Packets), len(g.Net.Packets) + 1, math.MaxInt, math.MinInt} {
			w, why := world.Deliver(g.World, i)
			refused(t, fmt.Sprint(name, ": Deliver ", i), w, g.World, why, api.ErrUnknown)
			w, why = world.Drop(g.World, i)
			refused(t, fmt.Sprint(name, ": Drop ", i), w, g.World, why, api.ErrUnknown)
			w, why = world.Copy(g.World, i)
			refused(t, fmt.Sprint(name, ": Copy ", i), w, g.World, why, api.ErrUnknown)
		}
	}
}

// full is a busy world with n packets under way, those behind the busy one's being of no matter.
func full(t *testing.T, n int) *game {
	t.Helper()
	g := busy(t)
	for len(g.Net.Packets) < n {
		g.Net.Packets = append(g.Net.Packets, api.Packet{From: 6, To: 7, Text: "?"})
	}
	return g
}

func TestFullNet(t *testing.T) { // 19.1, 19.2, 19.3: what is sent is lost, if there is no room
	g := full(t, 4096)
	before := tidy(g.World).(api.World)
	w, why := world.Copy(g.World, 0)
	refused(t, "Copy", w, before, why, api.ErrFull)
	w, why = world.Copy(g.World, 4096)
	refused(t, "Copy of none", w, before, why, api.ErrUnknown)

	g.tick()
	if len(g.Net.Packets) != 4096 || !slices.Equal(g.Net.Packets, before.Net.Packets) || g.Coord.Now != before.Coord.Now+1 {
		t.Error("a tick: there are", len(g.Net.Packets))
	}
	last := g.Coord.Last
	if n := g.ask(all); n != last+1 || len(g.Coord.Runs) != 3 || len(g.Net.Packets) != 4096 {
		t.Error("a query: the number is", n)
	}
	if n := g.load(table("t", 9)); n != last+2 || len(g.Coord.Loads) != 2 || len(g.Net.Packets) != 4096 {
		t.Error("a load: the number is", n)
	}

	g = full(t, 4094)
	g.tick() // of all that is sent, the first two find room
	calm := busy(t)
	under := len(calm.Net.Packets)
	calm.tick()
	if !slices.Equal(g.Net.Packets[4094:], calm.Net.Packets[under:under+2]) || len(g.Net.Packets) != 4096 {
		t.Error("a tick with room for two: there are", len(g.Net.Packets))
	}

	g = full(t, 4097)
	if why := world.Check(g.World); why != api.ErrState {
		t.Error("one packet too many: error", why)
	}
}

func TestDeliverOfFullNet(t *testing.T) { // 19.3: the packet makes room for one
	m := api.Msg{Kind: api.MsgStart}
	g := full(t, 4096)
	s := api.Stream{Query: api.Qid{Boot: 1, N: 99}, Attempt: 1}
	m = api.Msg{Kind: api.MsgStart, Stream: s, Bound: g.Coord.Runs[0].Bound, Catalog: []api.Table{{Name: "t", Cols: colsOf("t")}}, Frag: g.Coord.Runs[0].Frags[0], Nodes: []int{1, 1, 1}}
	m.Frag.Node = 1
	g.Net.Packets[0] = api.Packet{From: 0, To: 1, Text: messageText(m)}
	x, posts := worker.Receive(g.Workers[0], 0, m)
	if len(posts) < 2 {
		t.Fatal("the worker wants", posts)
	}
	want := tidy(g.World).(api.World)
	want.Workers[0] = x
	want.Net.Packets = append(want.Net.Packets[1:], packetsOf(t, 1, posts)[0])
	g.deliver(0)
	g.is("a Start", want)
}

func TestMessagesWithoutText(t *testing.T) { // 19.1: what has no text is lost, what is behind it is sent
	g := started(t, wide())
	x := &g.Workers[0]
	s := api.Stream{Query: api.Qid{Boot: 1, N: 1}, Attempt: 1, From: 0, To: -1}
	bad := api.Row{{Kind: api.KindInt, S: "no value"}}
	task := api.Task{Query: s.Query, Attempt: 1, Frag: api.Frag{Id: 0, Node: 1}, Nodes: []int{1}, Ran: true}
	task.Outs = []api.Out{{Stream: s, Batches: [][]api.Row{{bad}}}, {Stream: s, Batches: [][]api.Row{{{whole(1)}}}}}
	x.Tasks = []api.Task{task}
	if why := world.Check(g.World); why != api.OK {
		t.Fatal("Check: error", why)
	}
	g.tick()
	batch := messageText(api.Msg{Kind: api.MsgBatch, Stream: s, Last: true, Rows: []api.Row{{whole(1)}}})
	want := []api.Packet{{From: 1, To: 0, Text: beatText(1)}, {From: 1, To: 0, Text: batch}, {From: 2, To: 0, Text: beatText(1)}, {From: 3, To: 0, Text: beatText(1)}}
	if !slices.Equal(g.Net.Packets, want) {
		t.Errorf("%v; not %v", g.Net.Packets, want)
	}
}

func TestSentToNoNode(t *testing.T) { // 19.1, 19.3: the net takes what is sent to a node that the world has not
	g := started(t, wide())
	q := api.Qid{Boot: 1, N: 1}
	s := api.Stream{Query: q, Attempt: 1, From: 0, To: 1}
	task := api.Task{Query: q, Attempt: 1, Frag: api.Frag{Id: 0, Node: 1, To: []int{1}}, Nodes: []int{1, 6}, Ran: true}
	task.Outs = []api.Out{{Stream: s, Batches: [][]api.Row{{{whole(1)}}}}}
	g.Workers[0].Tasks = []api.Task{task}
	g.tick()
	want := api.Packet{From: 1, To: 6, Text: messageText(api.Msg{Kind: api.MsgBatch, Stream: s, Last: true, Rows: []api.Row{{whole(1)}}})}
	if len(g.Net.Packets) != 4 || g.Net.Packets[1] != want {
		t.Fatalf("%v; not %v", g.Net.Packets, want)
	}
	before := tidy(g.World).(api.World)
	before.Net.Packets = slices.Delete(before.Net.Packets, 1, 2)
	g.deliver(1)
	g.is("it comes to nobody", before)
}
