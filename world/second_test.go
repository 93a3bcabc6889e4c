package world_test

import (
	"math/rand/v2"
	"testing"

	"potsherd/api"
	"potsherd/coord"
	"potsherd/disk"
	"potsherd/net"
	"potsherd/place"
	"potsherd/wire"
	"potsherd/worker"
	"potsherd/world"
)

func pick[T any](r *rand.Rand, l ...T) T { return l[r.IntN(len(l))] }

// The chapter's words once more: a node is told by its number here, and the net is a list that is put to and taken from.

type second struct{ api.World }

func isSecondRight(w api.World) bool {
	l := w.Coord.Layout
	if place.Check(l) != api.OK || net.Check(w.Net) != api.OK || len(w.Up) != l.Nodes || len(w.Workers)+1 != l.Nodes {
		return false
	}
	for node, isUp := range w.Up {
		d := *diskOf(&w, node)
		switch {
		case node > 0 && w.Workers[node-1].Id != node, disk.Check(d) != api.OK:
			return false
		case !isUp && !alike(w, bare(w, node, d)):
			return false
		case isUp && node == 0 && (coord.Check(w.Coord) != api.OK || len(w.Coord.Answers) > 0):
			return false
		case isUp && node > 0 && worker.Check(w.Workers[node-1]) != api.OK:
			return false
		}
	}
	return true
}

func (s *second) sent(from int, posts []api.Post) {
	for _, p := range posts {
		text, why := wire.Write(p.Msg)
		if why == api.OK && p.To >= 0 && p.To < 8 && len(s.Net.Packets) < 4096 {
			s.Net.Packets = append(s.Net.Packets, api.Packet{From: from, To: p.To, Text: text})
		}
	}
	for _, a := range s.Coord.Answers {
		s.Answers = append(s.Answers, api.Told{Boot: s.Coord.Boot, Answer: a})
	}
	s.Coord.Answers = nil
}

func (s *second) ordered(give func(api.Coord) (api.Coord, uint64, []api.Post)) (uint64, api.Errno) {
	if !s.Up[0] || s.Coord.Disk.Down || s.Coord.Last == most {
		return 0, api.ErrDown
	}
	c, n, posts := give(s.Coord)
	s.Coord = c
	s.sent(0, posts)
	return n, api.OK
}

func (s *second) tick() {
	var posts []api.Post
	for node, isUp := range s.Up {
		if !isUp {
			continue
		}
		if node == 0 {
			s.Coord, posts = coord.Tick(s.Coord)
		} else {
			s.Workers[node-1], posts = worker.Tick(s.Workers[node-1])
		}
		s.sent(node, posts)
	}
}

// packet is the one at i, which is a new list's last if it is doubled, and is in none if it is gone.
func (s *second) packet(i int, times int) (p api.Packet, why api.Errno) {
	var l []api.Packet
	isThere := false
	for k, x := range s.Net.Packets {
		if k == i {
			p, isThere = x, true
		}
		if k != i || times > 0 {
			l = append(l, x)
		}
	}
	if !isThere {
		return p, api.ErrUnknown
	}
	if times > 1 {
		l = append(l, p)
	}
	if len(l) > 4096 {
		return p, api.ErrFull
	}
	s.Net.Packets = l
	return p, api.OK
}

func (s *second) deliver(i int) api.Errno {
	p, why := s.packet(i, 0)
	if why != api.OK {
		return why
	}
	m, why := wire.Read(p.Text)
	if why != api.OK || p.To >= len(s.Up) || !s.Up[p.To] {
		return api.OK
	}
	var posts []api.Post
	if p.To == 0 {
		s.Coord, posts = coord.Receive(s.Coord, p.From, m)
	} else {
		s.Workers[p.To-1], posts = worker.Receive(s.Workers[p.To-1], p.From, m)
	}
	s.sent(p.To, posts)
	return api.OK
}

func (s *second) crash(node, keep int) api.Errno {
	if node < 0 || node >= len(s.Up) {
		return api.ErrRange
	}
	if !s.Up[node] {
		return api.ErrState
	}
	d, _ := disk.Crash(*diskOf(&s.World, node), keep)
	s.World = bare(s.World, node, d)
	return api.OK
}

func (s *second) restart(node int) (why api.Errno) {
	if node < 0 || node >= len(s.Up) {
		return api.ErrRange
	}
	if s.Up[node] {
		return api.ErrState
	}
	d, _ := disk.Crash(*diskOf(&s.World, node), -3)
	if node == 0 {
		s.Coord, why = coord.Start(s.Coord.Layout, d)
	} else {
		s.Workers[node-1], why = worker.Start(node, d)
	}
	s.Up[node] = why == api.OK
	return why
}

func (s *second) fuse(node, fuse int) api.Errno {
	if node < 0 || node >= len(s.Up) {
		return api.ErrRange
	}
	diskOf(&s.World, node).Fuse = fuse
	return api.OK
}

// move is something that may happen: a call, and its arguments.
type move struct {
	call       int
	at, behind int
	text       string
	table      api.Table
}

const moves = 9

// first is what the program answers.
func (m move) first(w api.World) (got api.World, n uint64, why api.Errno) {
	switch m.call {
	case 0:
		return world.Ask(w, m.text)
	case 1:
		return world.Load(w, m.table)
	case 2:
		got, why = world.Tick(w)
	case 3:
		got, why = world.Deliver(w, m.at)
	case 4:
		got, why = world.Drop(w, m.at)
	case 5:
		got, why = world.Copy(w, m.at)
	case 6:
		got, why = world.Crash(w, m.at, m.behind)
	case 7:
		got, why = world.Restart(w, m.at)
	case 8:
		got, why = world.Fuse(w, m.at, m.behind)
	}
	return got, 0, why
}

// second is what it is to answer.
func (m move) second(w api.World) (got api.World, n uint64, why api.Errno) {
	if !isSecondRight(w) {
		return api.World{}, 0, api.ErrState
	}
	s := &second{tidy(w).(api.World)}
	switch m.call {
	case 0:
		n, why = s.ordered(func(c api.Coord) (api.Coord, uint64, []api.Post) { return coord.Ask(c, m.text) })
	case 1:
		n, why = s.ordered(func(c api.Coord) (api.Coord, uint64, []api.Post) { return coord.Load(c, m.table) })
	case 2:
		s.tick()
	case 3:
		why = s.deliver(m.at)
	case 4:
		_, why = s.packet(m.at, 0)
	case 5:
		_, why = s.packet(m.at, 2)
	case 6:
		why = s.crash(m.at, m.behind)
	case 7:
		why = s.restart(m.at)
	case 8:
		why = s.fuse(m.at, m.behind)
	}
	return s.World, n, why
}

// hold says that both answer the same, and tells what.
func (m move) hold(t *testing.T, w api.World) (api.World, uint64, api.Errno) {
	t.Helper()
	got, n, why := m.first(w)
	want, wantN, wantWhy := m.second(w)
	if n != wantN || why != wantWhy {
		t.Fatalf("call %d (%d, %d): %d, error %d; not %d, error %d", m.call, m.at, m.behind, n, why, wantN, wantWhy)
	}
	if !alike(got, want) {
		t.Fatalf("call %d (%d, %d): %s", m.call, m.at, m.behind, differ(got, want))
	}
	return got, n, why
}

// someMove is one that is likely to do something with w.
func someMove(r *rand.Rand, w api.World) move {
	packets, nodes := len(w.Net.Packets), len(w.Up)
	m := move{call: pick(r, 0, 1, 2, 3, 3, 3, 3, 3, 3, 3, 3, 3, 3, 4, 5, 6, 7, 7, 8)}
	m.at = r.IntN(packets + 1)
	if m.call > 5 {
		m.at = r.IntN(nodes + 1)
	}
	if r.IntN(30) == 0 {
		m.at = pick(r, -1, 4, 7, 8, 4095, 4096, 1<<62)
	}
	m.behind = pick(r, -1, 0, 1, 2, 3, 4, 5, 6, 9, 20, 1<<40)
	m.text = pick(r, all, counted, joined, shuffled, "(from z)", "(", "")
	m.table = table(pick(r, "t", "u", "v"), r.IntN(40))
	if r.IntN(9) == 0 {
		m.table.Cols = nil
	}
	return m
}

func TestTwoWorlds(t *testing.T) { // 19.1, 19.2, 19.3, 19.4, 19.6
	r := rand.New(rand.NewPCG(19, 1))
	seen := make(map[api.Errno]int)
	for _, l := range []api.Layout{wide(), {Nodes: 2, Shards: 1, Replicas: 1}, {Nodes: 3, Shards: 2, Replicas: 1}, {Nodes: 8, Shards: 8, Replicas: 3}} {
		g := started(t, l)
		for range 900 {
			w, _, why := someMove(r, g.World).hold(t, g.World)
			seen[why]++
			if world.Check(w) != api.OK || !isSecondRight(w) {
				t.Fatal("the world is not right any more")
			}
			if g.World = w; len(w.Net.Packets) > 300 {
				g.Net.Packets = g.Net.Packets[:100]
			}
		}
	}
	for _, why := range []api.Errno{api.OK, api.ErrRange, api.ErrState, api.ErrUnknown, api.ErrDown} {
		if seen[why] < 20 {
			t.Errorf("error %d was seen %d times", why, seen[why])
		}
	}
}
