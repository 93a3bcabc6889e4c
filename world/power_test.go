package world_test

import (
	"fmt"
	"math"
	"strings"
	"testing"

	"potsherd/api"
	"potsherd/coord"
	"potsherd/disk"
	"potsherd/files"
	"potsherd/worker"
	"potsherd/world"
)

// diskOf is the disk of a node.
func diskOf(w *api.World, node int) *api.Disk {
	if node == 0 {
		return &w.Coord.Disk
	}
	return &w.Workers[node-1].Disk
}

// bare is w with a node that is down, and has that disk.
func bare(w api.World, node int, d api.Disk) api.World {
	w = tidy(w).(api.World)
	w.Up[node] = false
	if node == 0 {
		w.Coord = api.Coord{Layout: w.Coord.Layout, Disk: d}
	} else {
		w.Workers[node-1] = api.Worker{Id: node, Disk: d}
	}
	return w
}

// unsafe puts files to a node's disk not all of whose bytes are safe.
func (g *game) unsafe(node int) {
	d := diskOf(&g.World, node)
	d.Files = append([]api.DiskFile{{Name: "a", Data: "abcdef", Synced: 2}}, d.Files...)
	d.Files = append(d.Files, api.DiskFile{Name: "tmp", Data: "xyz"})
	g.became("files that are not safe", g.World, api.OK)
}

func TestCrash(t *testing.T) { // 19.4
	for node := range 3 {
		for keep, want := range map[int][2]string{-1: {"ab", ""}, math.MinInt: {"ab", ""}, 0: {"ab", ""}, 1: {"abc", "x"}, 3: {"abcde", "xyz"}, 4: {"abcdef", "xyz"}, math.MaxInt: {"abcdef", "xyz"}} {
			for _, isDown := range []bool{false, true} {
				g := busy(t)
				g.unsafe(node)
				d := diskOf(&g.World, node)
				d.Down, d.Fuse = isDown, 7
				left, _ := disk.Crash(*d, keep)
				wanted := bare(g.World, node, left)
				g.crash(node, keep)
				g.is(fmt.Sprintf("Crash %d %d", node, keep), wanted)
				d = diskOf(&g.World, node)
				got := [2]string{d.Files[0].Data, d.Files[len(d.Files)-1].Data}
				if got != want || d.Files[0].Synced != len(want[0]) || d.Down || d.Fuse != -1 {
					t.Errorf("Crash %d %d: the disk is %v", node, keep, d)
				}
			}
		}
	}
}

func TestNoSuchNode(t *testing.T) { // 19.4
	g := busy(t)
	for _, node := range []int{-1, 4, 5, 7, 8, math.MaxInt, math.MinInt} {
		w, why := world.Crash(g.World, node, 0)
		refused(t, fmt.Sprint("Crash ", node), w, g.World, why, api.ErrRange)
		w, why = world.Restart(g.World, node)
		refused(t, fmt.Sprint("Restart ", node), w, g.World, why, api.ErrRange)
		w, why = world.Fuse(g.World, node, 0)
		refused(t, fmt.Sprint("Fuse ", node), w, g.World, why, api.ErrRange)
	}
}

func TestNotNow(t *testing.T) { // 19.4: Crash of a node that is down, Restart of one that is up
	g := busy(t)
	for node := range 3 {
		for _, isDown := range []bool{false, true} { // without power it is up nevertheless
			diskOf(&g.World, node).Down = isDown
			w, why := world.Restart(g.World, node)
			refused(t, fmt.Sprint("Restart ", node), w, g.World, why, api.ErrState)
		}
	}
	for node := range 4 {
		if node < 3 {
			g.crash(node, 0)
		}
		w, why := world.Crash(g.World, node, 0)
		refused(t, fmt.Sprint("Crash ", node), w, g.World, why, api.ErrState)
	}
}

func TestRestart(t *testing.T) { // 19.4
	for node := range 4 {
		g := busy(t)
		if node < 3 {
			g.crash(node, 0)
		}
		g.unsafe(node)
		*diskOf(&g.World, node) = api.Disk{Files: diskOf(&g.World, node).Files, Down: true, Fuse: 1}
		left, _ := disk.Crash(*diskOf(&g.World, node), 0)
		want := tidy(g.World).(api.World)
		want.Up[node] = true
		var why api.Errno
		if node == 0 {
			want.Coord, why = coord.Start(wide(), left)
		} else {
			want.Workers[node-1], why = worker.Start(node, left)
		}
		if why != api.OK {
			t.Fatal("Start: error", why)
		}
		g.restart(node)
		g.is(fmt.Sprint("Restart ", node), want)
		d := diskOf(&g.World, node)
		boot := g.Coord.Boot
		if node > 0 {
			boot = g.Workers[node-1].Boot
		}
		if d.Files[0].Data != "ab" || d.Files[len(d.Files)-1].Name == "tmp" || d.Down || d.Fuse != -1 || boot != 2 {
			t.Errorf("Restart %d: the disk is %v, it was opened %d times", node, d, boot)
		}
	}
	g := busy(t)
	g.crash(0, 0)
	g.restart(0)
	if len(g.Coord.Claims) != 2 || len(g.Coord.Runs)+len(g.Coord.Loads) > 0 || g.Coord.Last != 0 {
		t.Error("the coordinator has", g.Coord)
	}
}

// kept is a disk with a file more, whose bytes are safe.
func kept(d api.Disk, name, bytes string) api.Disk {
	d = tidy(d).(api.Disk)
	for i, f := range d.Files {
		if f.Name == name {
			d.Files[i] = api.DiskFile{Name: name, Data: bytes, Synced: len(bytes)}
			return d
		}
	}
	d, _ = disk.Do(d, api.DiskStep{Kind: api.DiskPut, Name: name, Data: bytes})
	d, _ = disk.Do(d, api.DiskStep{Kind: api.DiskSync, Name: name})
	return d
}

func TestRestartThatFails(t *testing.T) { // 19.4: the Disk is as Start says, and the node not up
	other, _ := files.Publish(api.Disk{Fuse: -1}, []api.Claim{{Table: "t", Cols: colsOf("t"), Owners: [][]int{{1}}}})
	pub, _ := disk.Read(other, "pub")
	for name, x := range map[string]struct {
		file, bytes string
		workers     api.Errno
		coord       api.Errno
	}{
		"no opening":            {"boot", "?", api.ErrWire, api.ErrWire},
		"no opening left":       {"boot", beatText(most), api.ErrRange, api.ErrRange},
		"no room":               {"z", strings.Repeat("z", 1<<20-3), api.ErrFull, api.ErrFull},
		"nothing published":     {"pub", "?", api.OK, api.ErrWire},
		"published for another": {"pub", pub, api.OK, api.ErrState},
	} {
		for node := range 4 {
			g := started(t, wide())
			g.crash(node, 0)
			d := diskOf(&g.World, node)
			*d = kept(kept(*d, x.file, x.bytes), "tmp", "x")
			if why := world.Check(g.World); why != api.OK {
				t.Fatalf("%s: Check: error %d", name, why)
			}
			want := tidy(g.World).(api.World)
			why := x.workers
			var told api.Errno
			if node == 0 {
				why = x.coord
				want.Coord, told = coord.Start(wide(), *d)
			} else {
				want.Workers[node-1], told = worker.Start(node, *d)
			}
			want.Up[node] = why == api.OK
			w, got := world.Restart(g.World, node)
			if got != why || told != why || !alike(w, want) || world.Check(w) != api.OK {
				t.Errorf("%s: Restart %d: error %d; not %d: %s", name, node, got, why, differ(w, want))
			}
			if _, no := disk.Read(*diskOf(&w, node), "tmp"); no != api.ErrUnknown {
				t.Errorf("%s: Restart %d: what was broken off is there still", name, node)
			}
			if why == api.OK {
				continue
			}
			again, got := world.Restart(w, node)
			if got != why || again.Up[node] {
				t.Errorf("%s: Restart %d again: error %d", name, node, got)
			}
		}
	}
}

func TestFuse(t *testing.T) { // 19.4
	g := busy(t) // node 3 is down
	for node := range 4 {
		for _, fuse := range []int{0, 1, 5, -1, -7, math.MaxInt, math.MinInt} {
			for _, isDown := range []bool{false, true} {
				diskOf(&g.World, node).Down = isDown
				want := tidy(g.World).(api.World)
				diskOf(&want, node).Fuse = fuse
				g.fuse(node, fuse)
				g.is(fmt.Sprintf("Fuse %d %d", node, fuse), want)
			}
		}
	}
}

func TestFuseOfNodeThatIsDown(t *testing.T) { // 19.4: opening it, the power comes ahead of all, and the fuse is none any more
	for node := range 4 {
		for fuse := range 6 {
			g := filled(t)
			g.crash(node, 0)
			g.fuse(node, fuse)
			if g.Up[node] || diskOf(&g.World, node).Fuse != fuse {
				t.Errorf("Fuse %d %d: the disk is %v", node, fuse, diskOf(&g.World, node))
			}
			g.restart(node)
			if d := diskOf(&g.World, node); d.Fuse != -1 || d.Down || !g.Up[node] {
				t.Errorf("node %d has the fuse %d still", node, d.Fuse)
			}
		}
	}
}

func TestFuseThatBurns(t *testing.T) { // 19.4, 19.6, 19.8: the power goes while a shard is kept; behind it the load goes on
	for fuse := range 8 {
		g := filled(t)
		g.fuse(2, fuse)
		g.load(table("t", 40))
		g.empty()
		isGone := g.Workers[1].Disk.Down
		if isGone != (fuse < 6) { // two shards, three changes each
			t.Errorf("fuse %d: the power went: %v", fuse, isGone)
		}
		if isGone != (len(g.Answers) == 2) {
			t.Errorf("fuse %d: the answers are %v", fuse, g.Answers)
		}
		if isGone {
			g.crash(2, fuse)
			g.restart(2)
			g.calm(2)
		}
		if len(g.Answers) != 3 || g.Answers[2].Answer.Why != api.OK || len(g.Coord.Claims[0].Owners[1]) != 2 {
			t.Errorf("fuse %d: the answers are %v", fuse, g.Answers)
		}
		g.ask(counted)
		g.calm(1)
		if a := g.Answers[len(g.Answers)-1].Answer; a.Why != api.OK || a.Rows[0][0] != whole(40) {
			t.Errorf("fuse %d: %v", fuse, a)
		}
	}
}
