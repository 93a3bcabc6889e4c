package coord_test

import (
	"strings"
	"testing"

	"potsherd/api"
	"potsherd/coord"
	"potsherd/disk"
	"potsherd/files"
)

// loading is one with these loads.
func loading(l ...api.Load) api.Coord {
	return with(func(c *api.Coord) { c.Loads = l })
}

// published is what a load comes to with these owners.
func published(x api.Load, owners ...[]int) api.Claim {
	return api.Claim{Table: x.Table.Name, Cols: x.Table.Cols, Version: x.Version, Owners: owners}
}

// publishes is c with these claims, on its disk, too.
func publishes(c api.Coord, l ...api.Claim) api.Coord {
	c.Claims = l
	c.Disk, _ = files.Publish(c.Disk, l)
	return c
}

func TestInstalled(t *testing.T) { // 18.3: an Ack, till all owners have said so
	x := load(41, table("v", ts(0, 30)))
	c := loading(x)
	c.Last = 41
	n := &node{t, c}
	for i, p := range every(x) {
		n.receive("an Installed", p.To, told(x, p.Msg.File.Shard))
		if i == 5 {
			break
		}
		s := p.Msg.File.Shard
		c.Loads[0].Acks[s] = append(c.Loads[0].Acks[s], p.To)
		n.is("an Installed", c)
	}
	c.Loads, c.Answers = nil, []api.Answer{failed(41, api.OK)}
	c = publishes(c, append(claims(), published(x, []int{1, 2}, []int{2, 3}, []int{1, 3}))...)
	n.is("the last", c)
	if l, why := files.Claims(n.Disk); why != api.OK || !alike(l, n.Claims) {
		t.Errorf("published is %v, error %d", l, why)
	}
	n.ignores("behind the answer", 1, told(x, 0))
}

func TestInstalledInPlace(t *testing.T) { // 18.3: in the place of the one of its table
	x := load(35, table("t", ts(0, 9)), []int{1, 2}, []int{2, 3}, []int{1})
	c := loading(x)
	n := &node{t, c}
	n.receive("the last", 3, told(x, 2))
	c.Loads, c.Answers = nil, []api.Answer{failed(35, api.OK)}
	n.is("the last", publishes(c, published(x, []int{1, 2}, []int{2, 3}, []int{1, 3}), claims()[1]))
}

func TestInstalledOfSomethingElse(t *testing.T) { // 18.3
	x := load(35, table("v", ts(0, 9)), []int{1, 2}, []int{2, 3}, []int{1})
	n := &node{t, loading(x)}
	other := func(change func(m *api.Msg)) api.Msg {
		m := told(x, 2)
		change(&m)
		return m
	}
	for name, m := range map[string]api.Msg{
		"another table":     other(func(m *api.Msg) { m.File.Table = "t" }),
		"another opening":   other(func(m *api.Msg) { m.File.Version.Boot-- }),
		"another load":      other(func(m *api.Msg) { m.File.Version.Load++ }),
		"no shard":          other(func(m *api.Msg) { m.File.Shard = 3 }),
		"a shard below":     other(func(m *api.Msg) { m.File.Shard = -1 }),
		"one that is there": other(func(m *api.Msg) { m.File.Shard = 1 }),
	} {
		n.ignores(name, 3, m)
	}
	for _, from := range []int{0, 2, 4, -1} {
		n.ignores("no owner", from, told(x, 2))
	}
	n.ignores("twice", 1, told(x, 2))
	n.receive("without columns", 3, other(func(m *api.Msg) { m.File.Cols = nil }))
	if len(n.Loads) > 0 || len(n.Claims) != 3 {
		t.Error("the loads are", n.Loads)
	}
}

func TestSettled(t *testing.T) { // 18.3, 18.4: who is alive at Now
	dead := func(c api.Coord, nodes ...int) api.Coord {
		for _, node := range nodes {
			c.Leases.Seen[node] = 12
		}
		return c
	}
	x := load(35, table("v", ts(0, 9)), []int{1}, []int{2}, []int{1})
	c := dead(loading(x), 2) // 3 is alive, and has nothing
	n := &node{t, c}
	n.ignores("it waits", 1, told(x, 0))
	c = dead(loading(x), 2, 3)
	n = &node{t, c}
	n.receive("those that are missing are dead", 1, told(x, 0))
	c.Loads, c.Answers = nil, []api.Answer{failed(35, api.OK)}
	n.is("those that are missing are dead", publishes(c, append(claims(), published(x, []int{1}, []int{2}, []int{1}))...))

	x = load(35, table("v", ts(0, 9)), []int{1}, nil, []int{1})
	c = dead(loading(x), 2, 3) // nobody has the second shard, nor is there one who will
	n = &node{t, c}
	n.receive("lost", 1, told(load(1, table("z", nil)), 0))
	c.Loads, c.Answers = nil, []api.Answer{failed(35, api.ErrUnavailable)}
	n.is("lost", c)

	y := load(36, table("w", nil), []int{2}, []int{2}, []int{3})
	c = dead(loading(x, y, x), 1, 2, 3)
	n = &node{t, c}
	n.receive("nobody alive", 2, told(y, 0))
	c.Loads, c.Answers = nil, []api.Answer{failed(35, api.ErrUnavailable), failed(36, api.OK), failed(35, api.ErrUnavailable)}
	n.is("nobody alive", publishes(c, append(claims(), published(y, []int{2}, []int{2}, []int{3}))...))
}

func TestSettledOneByOne(t *testing.T) { // 18.3: each upon those before it
	full := [][]int{{1, 2}, {2, 3}, {1, 3}}
	first, waits := load(35, table("v", ts(0, 9)), full...), load(36, table("t", nil))
	second, third := load(37, table("v", ts(9, 19)), full...), load(38, table("u", nil), full...)
	c := loading(first, waits, second, third)
	n := &node{t, c}
	n.receive("an Installed of none", 1, told(load(1, table("z", nil)), 0))
	c = publishes(c, append(claims(), published(first, full...))...)
	c = publishes(c, claims()[0], claims()[1], published(second, full...))
	c = publishes(c, claims()[0], published(third, full...), published(second, full...))
	c.Loads, c.Answers = []api.Load{waits}, []api.Answer{failed(35, api.OK), failed(37, api.OK), failed(38, api.OK)}
	n.is("an Installed of none", c)
}

func TestPublishWithAFuse(t *testing.T) { // 18.3: if the Disk is Down then, nothing more is done at all
	full := [][]int{{1, 2}, {2, 3}, {1, 3}}
	x, y := load(35, table("v", ts(0, 9)), []int{1, 2}, []int{2, 3}, []int{1}), load(36, table("w", nil), full...)
	lost := load(37, table("z", nil))
	for fuse := range 8 {
		c := loading(x, y)
		c.Runs = asked(all).Runs
		c.Disk.Fuse = fuse
		n := &node{t, c}
		n.receive("the last", 3, told(x, 2))
		if c.Loads[0].Acks = full; fuse < 3 { // it is among the Acks, and that is all
			c.Disk, _ = files.Publish(c.Disk, append(claims(), published(x, full...)))
			n.is("the first is broken off", c)
		} else {
			c = publishes(c, append(claims(), published(x, full...))...)
			c.Loads, c.Answers = c.Loads[1:], []api.Answer{failed(35, api.OK)}
			if fuse < 6 {
				c.Disk, _ = files.Publish(c.Disk, append(c.Claims, published(y, full...)))
				n.is("the second is broken off", c)
			} else {
				c = publishes(c, append(c.Claims, published(y, full...))...)
				c.Loads, c.Answers = nil, append(c.Answers, failed(36, api.OK))
				n.is("both are published", c)
			}
		}
		if n.Disk.Down != (fuse < 6) {
			t.Errorf("a fuse of %d: %v", fuse, n.Disk)
		}
		holdOpened(t, n.Coord, fuse)
	}
	c := loading(y, lost) // what is behind the one that is broken off stays
	c.Leases.Seen = []uint64{0, 12, 12, 12}
	c.Disk.Fuse = 1
	n := &node{t, c}
	n.receive("the power goes", 1, told(x, 0))
	c.Disk, _ = files.Publish(c.Disk, append(claims(), published(y, full...)))
	n.is("the power goes", c)
	c = loading(lost, y)
	c.Leases.Seen = []uint64{0, 12, 12, 12}
	c.Disk.Fuse = 1
	n = &node{t, c}
	n.receive("one ahead is lost", 1, told(x, 0))
	c.Disk, _ = files.Publish(c.Disk, append(claims(), published(y, full...)))
	c.Loads, c.Answers = c.Loads[1:], []api.Answer{failed(37, api.ErrUnavailable)}
	n.is("one ahead is lost", c)
}

// holdOpened says that behind a crash what was answered is published, and nothing else but what was being published.
func holdOpened(t *testing.T, c api.Coord, fuse int) {
	t.Helper()
	for _, keep := range []int{0, 3, 1 << 20} {
		d, _ := disk.Crash(c.Disk, keep)
		again, why := coord.Start(c.Layout, d)
		if why != api.OK || !alike(again.Claims, c.Claims) {
			t.Errorf("a fuse of %d: opened with %v, error %d", fuse, again.Claims, why)
		}
	}
}

func TestPublishWithoutRoom(t *testing.T) { // 18.3: with another error that is its answer
	full := [][]int{{1, 2}, {2, 3}, {1, 3}}
	x, y := load(35, table("v", ts(0, 9)), full...), load(36, table("w", nil), []int{1})
	c := loading(x, y)
	c.Disk = api.Disk{Fuse: -1, Files: []api.DiskFile{{Name: "big", Data: strings.Repeat("x", 1<<20-5)}}}
	n := &node{t, c}
	n.receive("no room", 1, told(y, 0))
	c.Loads, c.Answers = []api.Load{y}, []api.Answer{failed(35, api.ErrFull)}
	n.is("no room", c)
}

func TestPublishATableTooMany(t *testing.T) { // 18.6: those that were taken on while there was room
	full := [][]int{{1, 2}, {2, 3}, {1, 3}}
	var l []api.Load
	for i, name := range []string{"v", "w", "t6", "v"} {
		l = append(l, load(uint64(35+i), table(name, nil), full...))
	}
	c := loading(l...)
	c.Claims, c.Disk = many(7), kept(many(7))
	n := &node{t, c}
	n.receive("an Installed of none", 1, told(load(1, table("z", nil)), 0))
	c = publishes(c, append(many(7), published(l[0], full...))...)
	c = publishes(c, append(many(6), published(l[2], full...), published(l[0], full...))...)
	c = publishes(c, append(many(6), published(l[2], full...), published(l[3], full...))...)
	c.Loads, c.Answers = nil, []api.Answer{failed(35, api.OK), failed(36, api.ErrMany), failed(37, api.OK), failed(38, api.OK)}
	n.is("an Installed of none", c)
}

func TestLoadsFromTheFirst(t *testing.T) { // 18.2, 18.3, 18.8: what runs read stays as it was
	c, why := coord.Start(wide(), api.Disk{Fuse: -1})
	if why != api.OK {
		t.Fatal("Start: error", why)
	}
	n := &node{t, c}
	for node := 1; node < 4; node++ {
		n.receive("a beat", node, beat(1))
	}
	for i := range uint64(3) {
		x := api.Load{N: 2*i + 1, Table: table("t", ts(int(i), 9)), Version: api.Version{Boot: 1, Load: 2*i + 1}}
		n.load("a version", x.Table, x.N, every(x)...)
		for _, p := range every(x) {
			n.receive("a shard", p.To, told(x, p.Msg.File.Shard))
		}
		claim := published(x, []int{1, 2}, []int{2, 3}, []int{1, 3})
		if !alike(n.Claims, []api.Claim{claim}) || len(n.Answers) != int(i+1) || !alike(n.Answers[i], failed(x.N, api.OK)) {
			t.Fatalf("published is %v, answered %v", n.Claims, n.Answers)
		}
		n.ask("a query", all, x.N+1, starts(n.Coord, run(n.Coord, x.N+1, all, 1))...)
	}
	for i, r := range n.Runs {
		if v := (api.Version{Boot: 1, Load: uint64(2*i + 1)}); r.Claims[0].Version != v || r.Frags[0].Left.Version != v {
			t.Errorf("%d: a run of %v", i, r.Claims)
		}
	}
}
