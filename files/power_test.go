package files_test

import (
	"math"
	"math/rand/v2"
	"reflect"
	"testing"

	"potsherd/api"
	"potsherd/disk"
	"potsherd/files"
)

// keeping is something that is kept: its name, what its bytes are, and the call.
type keeping struct {
	name  string
	bytes string
	call  func(d api.Disk) (api.Disk, api.Errno)
}

func opening(n uint64) keeping {
	return keeping{"boot", beat(n), func(d api.Disk) (api.Disk, api.Errno) {
		e, _, why := files.Open(d)
		return e, why
	}}
}

func installing(f api.File) keeping {
	return keeping{files.Name(f), install(f), func(d api.Disk) (api.Disk, api.Errno) { return files.Install(d, f) }}
}

func publishing(l ...api.Claim) keeping {
	return keeping{"pub", claims(l...), func(d api.Disk) (api.Disk, api.Errno) { return files.Publish(d, l) }}
}

// keepings are of all kinds, for disks that were opened six times.
func keepings() map[string]keeping {
	return map[string]keeping{
		"an opening":     opening(7),
		"a shard":        installing(shard()),
		"another shard":  installing(api.File{Table: "new"}),
		"claims":         publishing(published()...),
		"no claims":      publishing(),
		"a longer shard": installing(changed(func(f *api.File) { f.Table, f.Cols = "t", make([]api.Col, 64) })),
	}
}

// kept are disks all of whose bytes are safe, which were opened six times.
func kept() map[string]api.Disk {
	boot, name := safe("boot", beat(6)), files.Name(shard())
	return map[string]api.Disk{
		"opened":        of(boot),
		"with others":   of(safe("a", "x"), boot, safe("pub", claims(published()[:1]...)), safe(name, install(changed(func(f *api.File) { f.Rows = nil }))), safe("z", "z")),
		"with junk":     of(boot, safe("pub", "junk"), safe(name, "junk")),
		"with nothings": of(boot, safe("pub", ""), safe(name, "")),
	}
}

func TestPower(t *testing.T) { // 11.1, 11.2: what the disk is when the power goes, step by step
	for what, k := range keepings() {
		for on, d := range kept() {
			want := []api.Disk{
				with(d, file("tmp", k.bytes, 0)),
				with(d, file("tmp", k.bytes, 0)),
				with(d, safe("tmp", k.bytes)),
			}
			for fuse, e := range want {
				got, why := k.call(fused(d, fuse))
				if !alike(got, down(fused(e, 0))) || why != api.ErrDown {
					t.Errorf("%s, %s, %d steps: %.300v, error %d", what, on, fuse, got, why)
				}
			}
			for _, fuse := range []int{3, 4} {
				got, why := k.call(fused(d, fuse))
				if !alike(got, fused(with(d, safe(k.name, k.bytes)), fuse-3)) || why != api.OK {
					t.Errorf("%s, %s, %d steps: %.300v, error %d", what, on, fuse, got, why)
				}
			}
		}
	}
}

func TestPowerWithARest(t *testing.T) { // 11.1, 11.2
	for what, k := range keepings() {
		for on, d := range kept() {
			rest := with(d, file("tmp", "rest", 2))
			want := []api.Disk{with(d, file("tmp", k.bytes, 0)), with(d, file("tmp", k.bytes, 0)), with(d, safe("tmp", k.bytes)), with(d, safe(k.name, k.bytes))}
			if k.name == "boot" { // a rest is dropped ahead of all
				want = append([]api.Disk{rest}, want...)
			}
			for fuse, e := range want {
				got, why := k.call(fused(rest, fuse))
				if fuse == len(want)-1 {
					if !alike(got, fused(e, 0)) || why != api.OK {
						t.Errorf("%s, %s, %d steps: %.300v, error %d", what, on, fuse, got, why)
					}
				} else if !alike(got, down(fused(e, 0))) || why != api.ErrDown {
					t.Errorf("%s, %s, %d steps: %.300v, error %d", what, on, fuse, got, why)
				}
			}
		}
	}
}

// keeps is how many bytes that were not safe a crash may keep of n.
func keeps(n int) []int {
	l := []int{math.MinInt, -1, math.MaxInt}
	for i := range n + 2 {
		l = append(l, i)
	}
	return l
}

func TestWholeOrNot(t *testing.T) { // 11.4, 11.5, P8
	done, broken := 0, 0
	for what, k := range keepings() {
		for on, d := range kept() {
			for fuse := range 6 {
				got, why := k.call(fused(d, fuse))
				for _, keep := range keeps(len(k.bytes)) {
					after, wrong := disk.Crash(got, keep)
					if wrong != api.OK {
						t.Fatal("Crash: error", wrong)
					}
					after = without(after, "tmp")
					if alike(after, with(d, safe(k.name, k.bytes))) {
						done++
					} else if !alike(after, d) || why == api.OK {
						t.Fatalf("%s, %s, %d steps, %d bytes kept: %.300v, error %d", what, on, fuse, keep, after, why)
					} else {
						broken++
					}
				}
			}
		}
	}
	if done < 1000 || broken < 1000 {
		t.Errorf("%d were done, %d broken off", done, broken)
	}
}

// memo is what a node is known to keep: of each name what may be there, the last one that was told to be kept, and those that the power may have broken off since.
type memo struct {
	shards map[string][]*api.File
	claims [][]api.Claim
	opened uint64 // the last number that was answered
}

func (m *memo) install(f api.File, why api.Errno) {
	name := files.Name(f)
	if _, ok := m.shards[name]; !ok {
		m.shards[name] = []*api.File{nil}
	}
	m.shards[name] = append(m.shards[name], &f)
	if why == api.OK {
		m.shards[name] = []*api.File{&f}
	}
}

func (m *memo) publish(l []api.Claim, why api.Errno) {
	m.claims = append(m.claims, l)
	if why == api.OK {
		m.claims = [][]api.Claim{l}
	}
}

// held says that what is there is what may be; from then on just that may be.
func (m *memo) held(t *testing.T, d api.Disk, all []api.File) {
	t.Helper()
	for _, f := range all {
		may, name := m.shards[files.Name(f)], files.Name(f)
		got, is := files.Find(d, f.Table, f.Version, f.Shard)
		fits := len(may) == 0 && !is
		for _, x := range may {
			if x == nil && !is || x != nil && is && reflect.DeepEqual(*x, got) {
				fits = true
			}
		}
		if !fits {
			t.Fatalf("%q is %v, %v, on %v", name, got, is, d)
		}
		delete(m.shards, name)
		if is {
			m.shards[name] = []*api.File{&got}
		}
	}
	l, why := files.Claims(d)
	fits := false
	for _, x := range m.claims {
		fits = fits || len(x)+len(l) == 0 || reflect.DeepEqual(x, l)
	}
	if !fits || why != api.OK {
		t.Fatalf("what is published is %v, error %d, on %v", l, why, d)
	}
	m.claims = [][]api.Claim{l}
}

// smallShards are some with other bytes under the same names.
func smallShards() (l []api.File) {
	for _, table := range []string{"t", "u"} {
		for load := range uint64(2) {
			for rows := range 3 {
				f := api.File{Table: table, Version: api.Version{Boot: 1, Load: load}, Shard: 1}
				for range rows {
					f.Rows = append(f.Rows, api.Row{{Kind: api.KindInt, N: int64(rows)}})
				}
				l = append(l, f)
			}
		}
	}
	return l
}

func TestKeptAndRisen(t *testing.T) { // 11.4, 11.5, 11.6, P8: a node's life, with the power going at any time
	r := rand.New(rand.NewPCG(11, 1))
	all := smallShards()
	openings, crashes, refused := 0, 0, 0
	for range 300 {
		d := of()
		m := &memo{shards: make(map[string][]*api.File), claims: [][]api.Claim{nil}}
		for range 60 {
			d.Fuse = r.IntN(12) - 1
			next, n, why := files.Open(d)
			if (why != api.OK && n != 0) || (why == api.OK && n <= m.opened) {
				t.Fatalf("opened %d times, and then %d, error %d, on %v", m.opened, n, why, d)
			}
			if why == api.OK {
				m.opened = n
				openings++
			}
			d = next
			for i := 0; i < 4 && !d.Down; i++ {
				var why api.Errno
				if f := all[r.IntN(len(all))]; r.IntN(3) > 0 {
					d, why = files.Install(d, f)
					m.install(f, why)
				} else {
					l := published()[r.IntN(3):]
					d, why = files.Publish(d, l)
					m.publish(l, why)
				}
				if why != api.OK {
					refused++
				} else {
					m.held(t, d, all)
				}
			}
			d, why = disk.Crash(d, r.IntN(40)-2)
			if why != api.OK {
				t.Fatal("Crash: error", why)
			}
			m.held(t, d, all)
			crashes++
		}
	}
	if openings < 5000 || refused < 5000 || crashes < 10000 {
		t.Errorf("%d openings, %d times the power went, %d crashes", openings, refused, crashes)
	}
}
