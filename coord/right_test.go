package coord_test

import (
	"fmt"
	"math"
	"slices"
	"strings"
	"testing"

	"potsherd/api"
	"potsherd/coord"
)

func wrongLayouts() []api.Layout {
	return []api.Layout{{}, {Nodes: 1, Shards: 3, Replicas: 1}, {Nodes: 9, Shards: 3, Replicas: 2}, {Nodes: 4, Shards: 0, Replicas: 2}, {Nodes: 4, Shards: 9, Replicas: 2}, {Nodes: 4, Shards: 3}, {Nodes: 4, Shards: 3, Replicas: 4}, {Nodes: math.MaxInt, Shards: math.MaxInt, Replicas: math.MaxInt}}
}

func wrongDisks() map[string]api.Disk {
	return map[string]api.Disk{
		"no name":              {Fuse: -1, Files: []api.DiskFile{{}}},
		"more safe than there": {Fuse: -1, Files: []api.DiskFile{{Name: "a", Synced: 1}}},
		"two of a name":        {Fuse: -1, Files: []api.DiskFile{{Name: "a"}, {Name: "a"}}},
		"not by name":          {Fuse: -1, Files: []api.DiskFile{{Name: "b"}, {Name: "a"}}},
		"too much":             {Fuse: -1, Files: []api.DiskFile{{Name: "a", Data: strings.Repeat("x", 1<<20+1)}}},
	}
}

// withRun is one with a run of which something is changed.
func withRun(change func(r *api.Run)) api.Coord {
	c := asked(shuffled)
	change(&c.Runs[0])
	return c
}

// withLoad is one with a load of which something is changed.
func withLoad(change func(x *api.Load)) api.Coord {
	x := load(36, table("v", ts(0, 30)), nil, []int{2})
	change(&x)
	return with(func(c *api.Coord) { c.Loads = []api.Load{load(35, table("t", nil)), x} })
}

func frags(n int) (l []api.Frag) {
	for i := range n {
		l = append(l, api.Frag{Id: i, Node: 1 + i%3})
	}
	return l
}

func loads(n int) (l []api.Load) {
	for i := range n {
		l = append(l, load(uint64(i), table("t", nil)))
	}
	return l
}

// wrong are coordinators that are not right, each in one way.
func wrong() map[string]api.Coord {
	l := map[string]api.Coord{
		"nothing":                      {},
		"no leases":                    with(func(c *api.Coord) { c.Leases = api.Leases{} }),
		"a lease less":                 with(func(c *api.Coord) { c.Leases = api.Leases{Boots: make([]uint64, 3), Seen: make([]uint64, 3)} }),
		"a lease more":                 with(func(c *api.Coord) { c.Leases = api.Leases{Boots: make([]uint64, 5), Seen: make([]uint64, 5)} }),
		"more seen than known":         with(func(c *api.Coord) { c.Leases.Seen = make([]uint64, 5) }),
		"less seen than known":         with(func(c *api.Coord) { c.Leases.Seen = make([]uint64, 3) }),
		"a claim too many":             with(func(c *api.Coord) { c.Claims = many(9) }),
		"a claim twice":                with(func(c *api.Coord) { c.Claims = append(c.Claims, c.Claims[0]) }),
		"a claim of no table":          with(func(c *api.Coord) { c.Claims[1].Table = "" }),
		"a claim without columns":      with(func(c *api.Coord) { c.Claims[1].Cols = nil }),
		"a shard of a claim less":      with(func(c *api.Coord) { c.Claims[1].Owners = c.Claims[1].Owners[:2] }),
		"a shard of a claim more":      with(func(c *api.Coord) { c.Claims[1].Owners = append(c.Claims[1].Owners, []int{1}) }),
		"a claim of nobody":            with(func(c *api.Coord) { c.Claims[1].Owners[2] = nil }),
		"a claim of no worker":         with(func(c *api.Coord) { c.Claims[1].Owners[2] = []int{0, 1} }),
		"a claim of a node too many":   with(func(c *api.Coord) { c.Claims[1].Owners[2] = []int{1, 4} }),
		"a run too many":               running(quiet(), all, all, counted, all, joined),
		"a load too many":              with(func(c *api.Coord) { c.Loads = loads(5) }),
		"a run of a number to come":    withRun(func(r *api.Run) { r.N = 41 }),
		"a load of a number to come":   withLoad(func(x *api.Load) { x.N = 41 }),
		"a run of the greatest number": withRun(func(r *api.Run) { r.N = most }),
		"Acks are not as many":         withLoad(func(x *api.Load) { x.Acks = x.Acks[:2] }),
		"Acks do not rise":             withLoad(func(x *api.Load) { x.Acks[0] = []int{2, 1} }),
		"an Ack twice":                 withLoad(func(x *api.Load) { x.Acks[0] = []int{2, 2} }),
		"an Ack of no owner":           withLoad(func(x *api.Load) { x.Acks[0] = []int{3} }),
		"a load of no table":           withLoad(func(x *api.Load) { x.Table = api.Table{} }),
		"a load of too many rows":      withLoad(func(x *api.Load) { x.Table.Rows = ts(0, 65) }),
		"a run without claims":         withRun(func(r *api.Run) { r.Claims = nil }),
		"a run with a claim twice":     withRun(func(r *api.Run) { r.Claims = append(r.Claims, r.Claims[1]) }),
		"a run with a claim too many":  withRun(func(r *api.Run) { r.Claims = append(r.Claims, many(7)...) }),
		"a run with a wrong claim":     withRun(func(r *api.Run) { r.Claims[1].Owners[0] = []int{2, 1} }),
		"a run of other tables":        withRun(func(r *api.Run) { r.Claims = many(3) }),
		"a run of no query":            withRun(func(r *api.Run) { r.Bound = api.Bound{} }),
		"a run of a wrong query":       withRun(func(r *api.Run) { r.Bound.Width++ }),
		"a run with other names":       withRun(func(r *api.Run) { r.Bound.Names[0] = "x" }),
		"no attempt":                   withRun(func(r *api.Run) { r.Attempt = 0 }),
		"an attempt below":             withRun(func(r *api.Run) { r.Attempt = -1 }),
		"an attempt too many":          withRun(func(r *api.Run) { r.Attempt = 5 }),
		"a Boot less":                  withRun(func(r *api.Run) { r.Boots = r.Boots[1:] }),
		"a Boot more":                  withRun(func(r *api.Run) { r.Boots = append(r.Boots, 5) }),
		"Boots without Frags":          withRun(func(r *api.Run) { r.Frags = nil }),
		"a Frag too many":              withRun(func(r *api.Run) { r.Frags, r.Boots = frags(65), make([]uint64, 65) }),
		"Frags in another order":       withRun(func(r *api.Run) { slices.Reverse(r.Frags) }),
		"an Id that is not its place":  withRun(func(r *api.Run) { r.Frags[8].Id = 9 }),
		"an Id twice":                  withRun(func(r *api.Run) { r.Frags[8].Id = 7 }),
		"a Frag at the coordinator":    withRun(func(r *api.Run) { r.Frags[8].Node = 0 }),
		"a Frag at no node":            withRun(func(r *api.Run) { r.Frags[8].Node = 4 }),
		"a Frag below":                 withRun(func(r *api.Run) { r.Frags[0].Node = -1 }),
		"a Frag far away":              withRun(func(r *api.Run) { r.Frags[0].Node = math.MaxInt }),
		"an In too many":               withRun(func(r *api.Run) { r.Ins = make([]api.In, 65) }),
		"an In beyond all":             withRun(func(r *api.Run) { r.Ins[2].Next = 513 }),
		"an In with a row more":        withRun(func(r *api.Run) { r.Ins[2] = api.In{Next: 1, Rows: ts(0, 9)} }),
		"an In done with nothing":      withRun(func(r *api.Run) { r.Ins[2].Done = true }),
		"an In that holds too much":    withRun(func(r *api.Run) { r.Ins[2].Held = []api.Batch{{Seq: 4}} }),
	}
	for i, x := range wrongLayouts() {
		l[fmt.Sprint("a layout: ", i)] = with(func(c *api.Coord) { c.Layout = x })
	}
	for name, d := range wrongDisks() {
		l["a disk: "+name] = with(func(c *api.Coord) { c.Disk = d })
	}
	return l
}

// right are coordinators that are, at the edges.
func right() map[string]api.Coord {
	return map[string]api.Coord{
		"quiet":                       quiet(),
		"busy":                        busy(),
		"down":                        with(func(c *api.Coord) { c.Disk.Down = true }),
		"the least layout":            {Layout: api.Layout{Nodes: 2, Shards: 1, Replicas: 1}, Leases: api.Leases{Boots: make([]uint64, 2), Seen: make([]uint64, 2)}},
		"no claims":                   with(func(c *api.Coord) { c.Claims = nil }),
		"as many claims as may be":    with(func(c *api.Coord) { c.Claims = many(8) }),
		"as many runs as may be":      running(quiet(), all, shuffled, counted, joined),
		"as many loads as may be":     with(func(c *api.Coord) { c.Loads = loads(4) }),
		"the last number":             with(func(c *api.Coord) { c.Last = most }),
		"a run of the last number":    withRun(func(r *api.Run) { r.N = 40 }),
		"a load of the last number":   withLoad(func(x *api.Load) { x.N = 40 }),
		"the first number":            withLoad(func(x *api.Load) { x.N = 0 }),
		"a load of another version":   withLoad(func(x *api.Load) { x.Version = api.Version{} }),
		"the last tick":               with(func(c *api.Coord) { c.Now = most }),
		"seen later than now":         with(func(c *api.Coord) { c.Leases.Seen[1] = most }),
		"no opening":                  with(func(c *api.Coord) { c.Boot = 0 }),
		"the last attempt":            withRun(func(r *api.Run) { r.Attempt = 4 }),
		"no Frags":                    withRun(func(r *api.Run) { r.Frags, r.Boots, r.Ins = nil, nil, nil }),
		"as many Frags as may be":     withRun(func(r *api.Run) { r.Frags, r.Boots = frags(64), make([]uint64, 64) }),
		"as many Ins as may be":       withRun(func(r *api.Run) { r.Ins = make([]api.In, 64) }),
		"an In of something else":     withRun(func(r *api.Run) { r.Ins[0].Stream = api.Stream{From: -9, To: 9} }),
		"Ins of no Frag":              withRun(func(r *api.Run) { r.Frags, r.Boots = nil, nil }),
		"Frags to anywhere":           withRun(func(r *api.Run) { r.Frags[0].To = []int{-1, 99} }),
		"other claims than now":       withRun(func(r *api.Run) { r.Claims[0].Version.Load++ }),
		"a claim that is not needed":  withRun(func(r *api.Run) { r.Claims = append(r.Claims, many(3)[1:]...) }),
		"another lease":               with(func(c *api.Coord) { c.Leases.Boots[3] = 0 }),
		"two runs of a number":        running(asked(all), all),
		"answers":                     with(func(c *api.Coord) { c.Answers = []api.Answer{{Why: 99}, {N: most}} }),
		"a disk that is something":    with(func(c *api.Coord) { c.Disk.Files = []api.DiskFile{{Name: "pub", Data: "?"}} }),
		"a disk with a fuse":          with(func(c *api.Coord) { c.Disk.Fuse = 0 }),
		"something else is published": with(func(c *api.Coord) { c.Disk = kept(many(3)) }),
	}
}

func TestCheck(t *testing.T) { // 18.1
	for name, c := range right() {
		if why := coord.Check(c); why != api.OK {
			t.Errorf("%s: error %d", name, why)
		}
	}
	for name, c := range wrong() {
		if why := coord.Check(c); why != api.ErrState {
			t.Errorf("%s: error %d", name, why)
		}
	}
}

func TestRightCoordinatorsStayRight(t *testing.T) { // 18.6
	for name, c := range right() {
		calls(c, func(what string, got api.Coord, n uint64, posts []api.Post) {
			if why := coord.Check(got); why != api.OK || got.Layout != c.Layout || got.Boot != c.Boot {
				t.Errorf("%s: %s: %v, error %d", name, what, got, why)
			}
			if c.Disk.Down && (len(posts) > 0 || n != 0 || !alike(got, c)) {
				t.Errorf("%s: %s: %d, %v", name, what, n, posts)
			}
		})
		for i := range 10 {
			if c, _ = coord.Tick(c); coord.Check(c) != api.OK {
				t.Errorf("%s: not right behind %d ticks", name, i)
			}
		}
	}
}
