package world_test

import (
	"slices"
	"strings"
	"testing"

	"potsherd/api"
	"potsherd/world"
)

// These are what lists of a node may have.
func someRun(t *testing.T) api.Run   { return busy(t).Coord.Runs[0] }
func someLoad(t *testing.T) api.Load { return busy(t).Coord.Loads[0] }
func someTask(t *testing.T) api.Task { return busy(t).Workers[0].Tasks[0] }

// wrong are worlds that are not right, each for one reason; node 3 is down.
func wrong(t *testing.T) map[string]api.World {
	l := make(map[string]api.World)
	put := func(name string, change func(w *api.World)) {
		g := busy(t)
		change(&g.World)
		l[name] = g.World
	}
	put("no nodes", func(w *api.World) { w.Coord.Layout.Nodes = 0 })
	put("too many nodes", func(w *api.World) { w.Coord.Layout.Nodes = 9 })
	put("no shards", func(w *api.World) { w.Coord.Layout.Shards = 0 })
	put("too many replicas", func(w *api.World) { w.Coord.Layout.Replicas = 4 })
	put("another layout", func(w *api.World) { w.Coord.Layout = api.Layout{Nodes: 3, Shards: 3, Replicas: 2} })
	put("too few workers", func(w *api.World) { w.Workers = w.Workers[:2] })
	put("no workers", func(w *api.World) { w.Workers = nil })
	put("too many workers", func(w *api.World) { w.Workers = append(w.Workers, api.Worker{Id: 4}) })
	put("too few Ups", func(w *api.World) { w.Up = w.Up[:3] })
	put("no Ups", func(w *api.World) { w.Up = nil })
	put("too many Ups", func(w *api.World) { w.Up = append(w.Up, false) })
	put("a worker with another Id", func(w *api.World) { w.Workers[1].Id, w.Workers[1].Tasks = 3, nil })
	put("a worker without Id", func(w *api.World) { w.Workers[0].Id, w.Workers[0].Tasks = 0, nil })
	put("a worker that is down with another Id", func(w *api.World) { w.Workers[2].Id = 2 })
	put("workers mixed up", func(w *api.World) { w.Workers[1], w.Workers[2] = w.Workers[2], w.Workers[1] })
	put("a packet of no node", func(w *api.World) { w.Net.Packets[3].From = 8 })
	put("a packet to no node", func(w *api.World) { w.Net.Packets[0].To = -1 })
	put("a packet that is too long", func(w *api.World) { w.Net.Packets[0].Text = strings.Repeat("x", 65537) })
	put("too many packets", func(w *api.World) { w.Net.Packets = slices.Repeat(w.Net.Packets[:1], 4097) })
	putUp(put)
	putDown(t, put)
	return l
}

// putUp are those of whose nodes one is up, and not right.
func putUp(put func(string, func(*api.World))) {
	put("leases of too few", func(w *api.World) { w.Coord.Leases.Seen = w.Coord.Leases.Seen[:3] })
	put("a run beyond the last number", func(w *api.World) { w.Coord.Last = 1 })
	put("a run without an attempt", func(w *api.World) { w.Coord.Runs[0].Attempt = 0 })
	put("too many runs", func(w *api.World) { w.Coord.Runs = slices.Repeat(w.Coord.Runs[:1], 5) })
	put("too many loads", func(w *api.World) { w.Coord.Loads = slices.Repeat(w.Coord.Loads[:1], 5) })
	put("a coordinator's disk", func(w *api.World) { w.Coord.Disk.Files[0].Synced = -1 })
	put("claims", func(w *api.World) { w.Coord.Claims[0].Owners = nil })
	put("an answer", func(w *api.World) { w.Coord.Answers = []api.Answer{{N: 1}} })
	put("an answer, the power being gone", func(w *api.World) { w.Coord.Answers, w.Coord.Disk.Down = []api.Answer{{}}, true })
	put("a task of another node", func(w *api.World) { w.Workers[0].Tasks[0].Frag.Node = 2 })
	put("a task that is there twice", func(w *api.World) { w.Workers[0].Tasks = append(w.Workers[0].Tasks, w.Workers[0].Tasks[0]) })
	put("a task seen later", func(w *api.World) { w.Workers[0].Tasks[0].Seen = 99 })
	put("a worker's disk", func(w *api.World) { w.Workers[1].Disk.Files[0].Name = "" })
	put("a window", func(w *api.World) { w.Workers[1].Over.Ids = make([]api.Qid, 2) })
	put("a worker that is up, and was never opened, with a bad disk", func(w *api.World) {
		w.Workers[0] = api.Worker{Id: 1, Disk: api.Disk{Files: []api.DiskFile{{}}}}
	})
	put("a coordinator that is up, and was never opened", func(w *api.World) { w.Coord = api.Coord{Layout: wide()} })
}

// putDown are those of whose nodes one is not up, and has more than it should.
func putDown(t *testing.T, put func(string, func(*api.World))) {
	put("a coordinator that is told to be down", func(w *api.World) { w.Up[0] = false })
	put("a worker that is told to be down", func(w *api.World) { w.Up[1] = false })
	worker := func(name string, change func(x *api.Worker)) {
		put("down, a worker with "+name, func(w *api.World) { change(&w.Workers[2]) })
	}
	worker("a Boot", func(x *api.Worker) { x.Boot = 1 })
	worker("a time", func(x *api.Worker) { x.Now = 1 })
	worker("a window", func(x *api.Worker) { x.Over.Ids = make([]api.Qid, 1) })
	task := someTask(t)
	task.Frag.Node, task.Seen = 3, 0
	worker("a task", func(x *api.Worker) { x.Tasks = []api.Task{task} })
	worker("a bad disk", func(x *api.Worker) { x.Disk.Files = append(x.Disk.Files, x.Disk.Files[0]) })
	leader := func(name string, change func(c *api.Coord)) {
		put("down, a coordinator with "+name, func(w *api.World) {
			*w = bare(*w, 0, w.Coord.Disk)
			change(&w.Coord)
		})
	}
	leader("a Boot", func(c *api.Coord) { c.Boot = 1 })
	leader("a time", func(c *api.Coord) { c.Now = 1 })
	leader("a number", func(c *api.Coord) { c.Last = 1 })
	leader("leases", func(c *api.Coord) { c.Leases = api.Leases{Boots: make([]uint64, 4), Seen: make([]uint64, 4)} })
	leader("Boots", func(c *api.Coord) { c.Leases.Boots = make([]uint64, 1) })
	leader("Seens", func(c *api.Coord) { c.Leases.Seen = make([]uint64, 1) })
	leader("claims", func(c *api.Coord) { c.Claims = busy(t).Coord.Claims })
	leader("a run", func(c *api.Coord) { c.Runs = []api.Run{someRun(t)} })
	leader("a load", func(c *api.Coord) { c.Loads = []api.Load{someLoad(t)} })
	leader("an answer", func(c *api.Coord) { c.Answers = make([]api.Answer, 1) })
	leader("a bad disk", func(c *api.Coord) { c.Disk.Files[0].Synced = 99999 })
	leader("no layout", func(c *api.Coord) { c.Layout = api.Layout{} })
}

// calls does everything with w that may be done, and says what comes of each.
func calls(w api.World, say func(name string, w api.World, n uint64, why api.Errno)) {
	orders(w, say)
	of := func(name string, got api.World, why api.Errno) { say(name, got, 0, why) }
	got, why := world.Tick(w)
	of("Tick", got, why)
	for _, i := range []int{0, 1, -1, 1 << 20} {
		got, why = world.Deliver(w, i)
		of("Deliver", got, why)
		got, why = world.Drop(w, i)
		of("Drop", got, why)
		got, why = world.Copy(w, i)
		of("Copy", got, why)
	}
	for _, node := range []int{0, 1, 3, -1, 8} {
		got, why = world.Crash(w, node, 2)
		of("Crash", got, why)
		got, why = world.Restart(w, node)
		of("Restart", got, why)
		got, why = world.Fuse(w, node, 2)
		of("Fuse", got, why)
	}
}

func TestWorldThatIsNotRight(t *testing.T) { // 19.1, 19.4: ErrState is told ahead of all, all else being zero
	l := wrong(t)
	l["nothing"] = api.World{}
	for what, w := range l {
		if why := world.Check(w); why != api.ErrState {
			t.Errorf("%s: Check: error %d", what, why)
		}
		calls(w, func(name string, got api.World, n uint64, why api.Errno) {
			if why != api.ErrState || n != 0 || !alike(got, api.World{}) {
				t.Errorf("%s: %s: %d, error %d, %v", what, name, n, why, got)
			}
		})
	}
}

func TestWorldThatIsRight(t *testing.T) { // 19.1: what is no matter
	for what, change := range map[string]func(w *api.World){
		"busy":                       func(*api.World) {},
		"a packet of no node":        func(w *api.World) { w.Net.Packets[0] = api.Packet{From: 7, To: 7, Text: "?"} },
		"a long packet":              func(w *api.World) { w.Net.Packets[0].Text = strings.Repeat("x", 65536) },
		"nothing under way":          func(w *api.World) { w.Net.Packets = []api.Packet{} },
		"no answers":                 func(w *api.World) { w.Answers = nil },
		"any answers":                func(w *api.World) { w.Answers = slices.Repeat([]api.Told{{Boot: 9}}, 5000) },
		"a coordinator's power":      func(w *api.World) { w.Coord.Disk.Down = true },
		"a worker's power":           func(w *api.World) { w.Workers[0].Disk.Down, w.Workers[0].Disk.Fuse = true, -9 },
		"power of one that is down":  func(w *api.World) { w.Workers[2].Disk.Down, w.Workers[2].Disk.Fuse = true, 5 },
		"files of one that is down":  func(w *api.World) { w.Workers[2].Disk.Files = []api.DiskFile{{Name: "x", Data: "y"}} },
		"no files":                   func(w *api.World) { w.Workers[2].Disk = api.Disk{}; w.Coord.Disk = api.Disk{} },
		"a coordinator that is down": func(w *api.World) { *w = bare(*w, 0, api.Disk{Down: true}) },
		"a worker without openings":  func(w *api.World) { w.Workers[1] = api.Worker{Id: 2} },
		"all are down": func(w *api.World) {
			for node := range 4 {
				*w = bare(*w, node, api.Disk{})
			}
		},
		"empty lists of one that is down": func(w *api.World) {
			w.Workers[2].Tasks, w.Workers[2].Over.Ids = []api.Task{}, []api.Qid{}
		},
		"empty lists of a coordinator that is down": func(w *api.World) {
			*w = bare(*w, 0, api.Disk{})
			c := &w.Coord
			c.Leases, c.Claims, c.Runs, c.Loads, c.Answers = api.Leases{Boots: []uint64{}, Seen: []uint64{}}, []api.Claim{}, []api.Run{}, []api.Load{}, []api.Answer{}
		},
	} {
		g := busy(t)
		change(&g.World)
		if why := world.Check(g.World); why != api.OK {
			t.Errorf("%s: Check: error %d", what, why)
		}
		calls(g.World, func(name string, got api.World, _ uint64, why api.Errno) {
			if world.Check(got) != api.OK {
				t.Errorf("%s: %s: error %d, and the world is not right", what, name, why)
			}
		})
	}
}
