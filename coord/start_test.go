package coord_test

import (
	"fmt"
	"strings"
	"testing"

	"potsherd/api"
	"potsherd/coord"
	"potsherd/disk"
	"potsherd/files"
	"potsherd/wire"
)

func TestStart(t *testing.T) { // 18.1
	for _, l := range []api.Layout{wide(), {Nodes: 2, Shards: 1, Replicas: 1}, {Nodes: 8, Shards: 8, Replicas: 7}} {
		d := api.Disk{Fuse: -1}
		for n := uint64(1); n <= 3; n++ {
			opened, number, _ := files.Open(d)
			c, why := coord.Start(l, d)
			want := api.Coord{Layout: l, Boot: n, Disk: opened, Leases: api.Leases{Boots: make([]uint64, l.Nodes), Seen: make([]uint64, l.Nodes)}}
			if why != api.OK || number != n || !alike(c, want) {
				t.Errorf("%v: error %d, %s", l, why, differ(c, want))
			}
			if why := coord.Check(c); why != api.OK {
				t.Errorf("%v: Check: error %d", l, why)
			}
			d = c.Disk
		}
	}
}

func TestStartWithClaims(t *testing.T) { // 18.1
	for _, l := range [][]api.Claim{nil, claims(), claims()[1:], many(8)} {
		d := kept(l)
		opened, _, _ := files.Open(d)
		c, why := coord.Start(wide(), d)
		want := api.Coord{Layout: wide(), Boot: 1, Disk: opened, Leases: api.Leases{Boots: make([]uint64, 4), Seen: make([]uint64, 4)}, Claims: l}
		if why != api.OK || !alike(c, want) || coord.Check(c) != api.OK {
			t.Errorf("%d claims: error %d, %s", len(l), why, differ(c, want))
		}
	}
}

func TestStartOfNoLayout(t *testing.T) { // 18.1, P2, P3: place.Check's error is told first, beside nothing
	disks := wrongDisks()
	for name, x := range broken() {
		disks[name] = x.disk
	}
	disks["right"] = kept(claims())
	for name, d := range disks {
		for _, l := range wrongLayouts() {
			if c, why := coord.Start(l, d); why != api.ErrRange || !alike(c, api.Coord{}) {
				t.Errorf("%s, %v: %v, error %d", name, l, c, why)
			}
		}
	}
}

// put is d with a file.
func put(d api.Disk, name, data string) api.Disk {
	for _, s := range []api.DiskStep{{Kind: api.DiskPut, Name: name, Data: data}, {Kind: api.DiskSync, Name: name}} {
		var why api.Errno
		if d, why = disk.Do(d, s); why != api.OK {
			panic(fmt.Sprint("Do: error ", why))
		}
	}
	return d
}

// broken are disks with which no coordinator starts, but for what ErrState tells, and why.
func broken() map[string]struct {
	disk api.Disk
	why  api.Errno
} {
	last, _ := wire.Write(beat(most))
	twice, none, few := append(claims(), claims()[0]), claims(), claims()
	none[1].Table = ""
	few[1].Owners = few[1].Owners[:2]
	fused := func(d api.Disk, fuse int) api.Disk {
		d.Fuse = fuse
		return d
	}
	down := kept(claims())
	down.Down = true
	clean, old := kept(claims()), put(kept(claims()), "tmp", "x")
	return map[string]struct {
		disk api.Disk
		why  api.Errno
	}{
		"down":                         {down, api.ErrDown},
		"no power":                     {fused(clean, 0), api.ErrDown},
		"power for a step":             {fused(clean, 1), api.ErrDown},
		"power for two":                {fused(clean, 2), api.ErrDown},
		"no power for a drop":          {fused(old, 0), api.ErrDown},
		"power for a drop alone":       {fused(old, 1), api.ErrDown},
		"power for a drop and two":     {fused(old, 3), api.ErrDown},
		"no openings":                  {put(kept(claims()), "boot", ""), api.ErrWire},
		"openings that are claims":     {put(kept(claims()), "boot", "\x09\x00"), api.ErrWire},
		"as many openings as may be":   {put(old, "boot", last), api.ErrRange},
		"no room":                      {put(api.Disk{Fuse: -1}, "big", strings.Repeat("x", 1<<20)), api.ErrFull},
		"no claims":                    {put(api.Disk{Fuse: -1}, "pub", ""), api.ErrWire},
		"claims with a byte more":      {put(api.Disk{Fuse: -1}, "pub", "\x09\x00\x00"), api.ErrWire},
		"claims that are a Beat":       {put(api.Disk{Fuse: -1}, "pub", last), api.ErrWire},
		"claims that are none":         {kept(none), api.ErrState},
		"claims of another layout":     {kept(few), api.ErrState},
		"a claim too many":             {kept(many(9)), api.ErrMany},
		"a claim twice":                {kept(twice), api.ErrTwice},
		"no openings, and no claims":   {put(put(api.Disk{Fuse: -1}, "boot", last), "pub", ""), api.ErrRange},
		"no power, and no claims":      {fused(put(api.Disk{Fuse: -1}, "pub", ""), 2), api.ErrDown},
		"no claims, and a fuse of 3":   {fused(put(api.Disk{Fuse: -1}, "pub", ""), 3), api.ErrWire},
		"many claims, and a fuse of 3": {fused(kept(many(9)), 3), api.ErrMany},
	}
}

func TestStartErrors(t *testing.T) { // 18.1, P2, P3
	for name, x := range broken() {
		opened, _, _ := files.Open(x.disk)
		c, why := coord.Start(wide(), x.disk)
		if want := (api.Coord{Layout: wide(), Disk: opened}); why != x.why || !alike(c, want) {
			t.Errorf("%s: error %d, not %d; %s", name, why, x.why, differ(c, want))
		}
	}
	for name, d := range wrongDisks() {
		for _, isDown := range []bool{false, true} {
			d.Down = isDown
			if c, why := coord.Start(wide(), d); why != api.ErrState || !alike(c, api.Coord{}) {
				t.Errorf("%s: %v, error %d", name, c, why)
			}
		}
	}
}

func TestStartWithAFuse(t *testing.T) { // 18.1: just as much power as is needed
	for steps, d := range map[int]api.Disk{3: kept(claims()), 4: put(kept(claims()), "tmp", "x")} {
		d.Fuse = steps
		c, why := coord.Start(wide(), d)
		if why != api.OK || c.Boot != 1 || len(c.Claims) != 2 || c.Disk.Down || c.Disk.Fuse != 0 {
			t.Errorf("a fuse of %d: %v, error %d", steps, c, why)
		}
		d.Fuse = steps - 1
		c, why = coord.Start(wide(), d)
		if why != api.ErrDown || !c.Disk.Down || c.Boot != 0 || len(c.Claims) != 0 {
			t.Errorf("a fuse of %d: %v, error %d", steps-1, c, why)
		}
		d, _ = disk.Crash(c.Disk, 0)
		if c, why = coord.Start(wide(), d); why != api.OK || c.Boot != 1 || !alike(c.Claims, claims()) {
			t.Errorf("once there is power: %v, error %d", c, why)
		}
	}
}
