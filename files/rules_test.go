package files_test

import (
	"fmt"
	"math"
	"math/rand/v2"
	"reflect"
	"runtime"
	"slices"
	"strings"
	"sync"
	"testing"
	"unsafe"

	"potsherd/api"
	"potsherd/disk"
	"potsherd/files"
	"potsherd/wire"
)

// The chapter's words once more, over files in a map; steps that need power go through spend.

type content struct {
	data   string
	synced int
}

type second struct {
	files map[string]content
	down  bool
	fuse  int
}

func secondOf(d api.Disk) *second {
	s := &second{make(map[string]content), d.Down, d.Fuse}
	for _, f := range d.Files {
		s.files[f.Name] = content{f.Data, f.Synced}
	}
	return s
}

func (s *second) disk() api.Disk {
	d := api.Disk{Down: s.down, Fuse: s.fuse}
	for name, c := range s.files {
		d.Files = append(d.Files, file(name, c.data, c.synced))
	}
	slices.SortFunc(d.Files, func(a, b api.DiskFile) int { return strings.Compare(a.Name, b.Name) })
	return d
}

// spend tells whether there is power for one step more.
func (s *second) spend() bool {
	if s.fuse == 0 {
		s.down = true
		return false
	}
	if s.fuse > 0 {
		s.fuse--
	}
	return true
}

func (s *second) keep(name, data string) api.Errno {
	all := len(data)
	for n, c := range s.files {
		if n != "tmp" {
			all += len(c.data)
		}
	}
	if all > 1<<20 {
		return api.ErrFull
	}
	s.files["tmp"] = content{data, 0}
	if !s.spend() || !s.spend() {
		return api.ErrDown
	}
	s.files["tmp"] = content{data, len(data)}
	if !s.spend() {
		return api.ErrDown
	}
	delete(s.files, "tmp")
	s.files[name] = content{data, len(data)}
	return api.OK
}

func (s *second) open() (uint64, api.Errno) {
	if s.down {
		return 0, api.ErrDown
	}
	if _, ok := s.files["tmp"]; ok {
		if !s.spend() {
			return 0, api.ErrDown
		}
		delete(s.files, "tmp")
	}
	n := uint64(0)
	if c, ok := s.files["boot"]; ok {
		m, why := wire.Read(c.data)
		if why != api.OK || m.Kind != api.MsgBeat {
			return 0, api.ErrWire
		}
		if n = m.Boot; n+1 == 0 {
			return 0, api.ErrRange
		}
	}
	if why := s.keep("boot", beat(n+1)); why != api.OK {
		return 0, why
	}
	return n + 1, api.OK
}

func (s *second) install(f api.File) api.Errno {
	if s.down {
		return api.ErrDown
	}
	data, why := wire.Write(api.Msg{Kind: api.MsgInstall, File: f})
	if why != api.OK {
		return why
	}
	name := nameOf(f)
	if c := s.files[name]; c.data == data && c.synced == len(data) {
		return api.OK
	}
	return s.keep(name, data)
}

func nameOf(f api.File) string {
	return fmt.Sprintf("s/%d/%d/%d/%s", f.Version.Boot, f.Version.Load, f.Shard, f.Table)
}

func (s *second) find(table string, v api.Version, shard int) (api.File, bool) {
	c, ok := s.files[nameOf(api.File{Table: table, Version: v, Shard: shard})]
	m, why := wire.Read(c.data)
	if f := m.File; s.down || !ok || why != api.OK || m.Kind != api.MsgInstall || f.Table != table || f.Version != v || f.Shard != shard {
		return api.File{}, false
	}
	return m.File, true
}

func (s *second) claims() ([]api.Claim, api.Errno) {
	if s.down {
		return nil, api.ErrDown
	}
	c, ok := s.files["pub"]
	if !ok {
		return nil, api.OK
	}
	m, why := wire.Read(c.data)
	if why != api.OK || m.Kind != api.MsgClaims {
		return nil, api.ErrWire
	}
	return m.Claims, api.OK
}

func (s *second) publish(l []api.Claim) api.Errno {
	if s.down {
		return api.ErrDown
	}
	data, why := wire.Write(api.Msg{Kind: api.MsgClaims, Claims: l})
	if why != api.OK {
		return why
	}
	return s.keep("pub", data)
}

func pick[T any](r *rand.Rand, l ...T) T { return l[r.IntN(len(l))] }

func randomShard(r *rand.Rand) api.File {
	f := api.File{Table: pick(r, "t", "t", "u", "", "é"), Version: api.Version{Boot: pick[uint64](r, 1, 1, 0, math.MaxUint64), Load: uint64(r.IntN(2))}, Shard: pick(r, 0, 1, 1, -1)}
	for range r.IntN(3) {
		f.Rows = append(f.Rows, api.Row{{Kind: api.KindInt, N: int64(r.IntN(2))}})
	}
	switch r.IntN(60) {
	case 0, 1:
		f.Rows = append(f.Rows, api.Row{pick(r, api.Value{N: 1}, api.Value{Kind: 9})})
	case 2:
		f.Cols = make([]api.Col, 65)
	case 3:
		f.Rows = slices.Repeat([]api.Row{{{Kind: api.KindText, S: big(256)}}}, 240)
	}
	return f
}

func randomClaims(r *rand.Rand) []api.Claim {
	if r.IntN(20) == 0 {
		return pick(r, make([]api.Claim, 64), make([]api.Claim, 65))
	}
	l := []api.Claim{{Table: "t", Owners: [][]int{{1, r.IntN(4)}}}, {}, {Table: "u", Cols: shard().Cols}}
	return l[r.IntN(4):]
}

// spoilt is d with something else under one of the names that matter.
func spoilt(r *rand.Rand, d api.Disk) api.Disk {
	f := randomShard(r)
	name := pick(r, "boot", "boot", "tmp", "tmp", "pub", files.Name(f), "other")
	if r.IntN(4) == 0 {
		return without(d, name)
	}
	data := pick(r, "", "x", beat(5), beat(math.MaxUint64), beat(math.MaxUint64-1), claims(published()...), install(shard()), install(api.File{Table: "t", Version: api.Version{Boot: 1}}))
	if d = without(d, name); r.IntN(20) == 0 {
		data = big(max(0, room(d)-pick(r, 0, 0, 1, 2, 50, 100)))
	}
	if len(data) > room(d) {
		return d
	}
	return with(d, file(name, data, r.IntN(len(data)+1)))
}

// room is how many bytes more d may have.
func room(d api.Disk) int {
	n := api.MaxDisk
	for _, f := range d.Files {
		n -= len(f.Data)
	}
	return n
}

func TestFilesAsTheDocumentSays(t *testing.T) { // 11.1, 11.2, P2
	r := rand.New(rand.NewPCG(11, 2))
	seen := make(map[string]int)
	for range 300 {
		d := fused(of(), pick(r, -1, -1, 3, 20))
		for range 60 {
			s := secondOf(d)
			next, what, why, want := d, "", api.OK, api.OK
			switch r.IntN(3) {
			case 0:
				var n, number uint64
				next, n, why = files.Open(d)
				number, want = s.open()
				if what = "Open"; n != number {
					t.Fatalf("Open(%.300v) is %d; not %d", d, n, number)
				}
			case 1:
				f := randomShard(r)
				next, why = files.Install(d, f)
				what, want = "Install", s.install(f)
			case 2:
				l := randomClaims(r)
				next, why = files.Publish(d, l)
				what, want = "Publish", s.publish(l)
			}
			if why != want || !alike(next, s.disk()) {
				t.Fatalf("%s of %.300v is %.300v, error %d; not %.300v, error %d", what, d, next, why, s.disk(), want)
			}
			seen[fmt.Sprint(what, why)]++
			d = next
			l, why := files.Claims(d)
			if wanted, want := s.claims(); why != want || !reflect.DeepEqual(l, wanted) {
				t.Fatalf("Claims(%.300v) is %.300v, error %d; not %.300v, error %d", d, l, why, wanted, want)
			}
			f := randomShard(r)
			got, is := files.Find(d, f.Table, f.Version, f.Shard)
			if wanted, want := s.find(f.Table, f.Version, f.Shard); is != want || !reflect.DeepEqual(got, wanted) {
				t.Fatalf("Find(%.300v) is %.300v, %v; not %.300v, %v", d, got, is, wanted, want)
			}
			seen[fmt.Sprint("Claims", why)]++
			seen[fmt.Sprint("Find", is)]++
			if d.Down && r.IntN(2) == 0 || r.IntN(20) == 0 {
				d, _ = disk.Crash(d, r.IntN(40)-1)
				d.Fuse = pick(r, -1, -1, 0, 1, 2, 3, 7)
			}
			if r.IntN(4) == 0 {
				d = spoilt(r, d)
			}
		}
	}
	for _, what := range []string{"Open0", "Open2", "Open8", "Open11", "Open12", "Install0", "Install8", "Install11", "Install12", "Publish0", "Publish8", "Publish11", "Publish12", "Claims0", "Claims11", "Claims12", "Findtrue", "Findfalse"} {
		if seen[what] < 20 {
			t.Errorf("%s was seen %d times", what, seen[what])
		}
	}
}

// span is a piece of memory.
type span struct{ from, to uintptr }

func (a span) meets(b span) bool { return a.from < b.to && b.from < a.to }

// memory is where v's lists, with the room behind them, and its texts lie.
func memory(v reflect.Value) (l []span) {
	switch v.Kind() {
	case reflect.String:
		if s := v.String(); s != "" {
			p := uintptr(unsafe.Pointer(unsafe.StringData(s)))
			l = append(l, span{p, p + uintptr(len(s))})
		}
	case reflect.Slice:
		if n := uintptr(v.Cap()) * v.Type().Elem().Size(); n > 0 {
			l = append(l, span{v.Pointer(), v.Pointer() + n})
		}
		for i := range v.Len() {
			l = append(l, memory(v.Index(i))...)
		}
	case reflect.Struct:
		for i := range v.NumField() {
			l = append(l, memory(v.Field(i))...)
		}
	}
	return l
}

func meet(a, b []span) bool {
	return slices.ContainsFunc(a, func(x span) bool { return slices.ContainsFunc(b, x.meets) })
}

// answers are what all calls make of a disk, a shard and claims.
func answers(d api.Disk, f api.File, l []api.Claim) []any {
	opened, _, _ := files.Open(d)
	kept, _ := files.Install(d, f)
	found, _ := files.Find(d, f.Table, f.Version, f.Shard)
	claims, _ := files.Claims(d)
	published, _ := files.Publish(d, l)
	return []any{opened, kept, found, claims, published, files.Name(f)}
}

// cloned is d with texts that lie apart from all others.
func cloned(d api.Disk) api.Disk {
	d.Files = append(make([]api.DiskFile, 0, len(d.Files)+3), d.Files...)
	for i, f := range d.Files {
		d.Files[i] = file(strings.Clone(f.Name), strings.Clone(f.Data), f.Synced)
	}
	return d
}

// states are a disk with all power, without any, and down.
func states(d api.Disk) []api.Disk {
	return []api.Disk{d, fused(d, 0), fused(d, 1), fused(d, 2), fused(d, 3), down(d)}
}

func TestNewMemory(t *testing.T) { // 11.3
	for name, start := range right() {
		for i, d := range states(cloned(start)) {
			f, l := changed(func(f *api.File) { f.Table = strings.Clone("t") }), published()
			if name == "with all" {
				l = append(make([]api.Claim, 0, 9), l...)
			}
			given := slices.Concat(memory(reflect.ValueOf(d)), memory(reflect.ValueOf(f)), memory(reflect.ValueOf(l)))
			earlier := answers(d, f, l)
			for k, a := range answers(d, f, l) {
				own := memory(reflect.ValueOf(a))
				if meet(own, given) {
					t.Errorf("%s, %d: answer %d shares memory with what was handed in", name, i, k)
				}
				if meet(own, memory(reflect.ValueOf(earlier[k]))) {
					t.Errorf("%s, %d: answer %d shares memory with an earlier one", name, i, k)
				}
				for j, x := range own {
					if meet([]span{x}, own[j+1:]) {
						t.Errorf("%s, %d: two parts of answer %d share memory", name, i, k)
					}
				}
			}
			runtime.KeepAlive(d)
			runtime.KeepAlive(f)
			runtime.KeepAlive(l)
			runtime.KeepAlive(earlier)
		}
	}
}

func TestNothingIsChanged(t *testing.T) { // 11.3, P3
	for name, start := range right() {
		for i, d := range states(cloned(start)) {
			n := len(d.Files)
			copy(d.Files[:n+3][n:], []api.DiskFile{file("behind", "behind", 1), file("more", "", 0)})
			f, l := shard(), append(make([]api.Claim, 0, 5), published()...)
			l[:3][2] = api.Claim{Table: "behind"}
			before := fmt.Sprint(d.Files[:n+3], d.Down, d.Fuse, f, l[:3])
			first := answers(d, f, l)
			if fmt.Sprint(d.Files[:n+3], d.Down, d.Fuse, f, l[:3]) != before {
				t.Errorf("%s, %d: what was handed in was changed: %.300v", name, i, d)
			}
			d.Files, l = slices.Clip(slices.Clone(d.Files)), slices.Clip(slices.Clone(l))
			if !reflect.DeepEqual(answers(d, f, l), first) {
				t.Errorf("%s, %d: what is answered hangs on more than the arguments", name, i)
			}
		}
	}
}

func TestSideBySide(t *testing.T) { // 11.3, P3: as nothing is changed, many may ask at once
	d, f, l := right()["with all"], shard(), published()
	want := answers(d, f, l)
	var w sync.WaitGroup
	for range 8 {
		w.Go(func() {
			for range 20 {
				if got := answers(d, f, l); !reflect.DeepEqual(got, want) {
					t.Errorf("%v; not %v", got, want)
				}
			}
		})
	}
	w.Wait()
}

func randomDisk(r *rand.Rand) api.Disk {
	number := func() int { return pick(r, 0, 0, 1, 1, 2, 3, -1, 9, math.MaxInt, math.MinInt) }
	d := api.Disk{Down: r.IntN(4) == 0, Fuse: number()}
	for range r.IntN(4) {
		data := pick(r, "", "x", beat(1), beat(math.MaxUint64), claims(published()...), install(shard()))
		d.Files = append(d.Files, file(pick(r, "boot", "pub", "tmp", "", "s/1/2/3/t", "z"), data, pick(r, number(), len(data))))
	}
	if r.IntN(4) > 0 {
		slices.SortFunc(d.Files, func(a, b api.DiskFile) int { return strings.Compare(a.Name, b.Name) })
	}
	return d
}

func TestAnything(t *testing.T) { // P1, P2, P3, P4
	before := runtime.NumGoroutine()
	r := rand.New(rand.NewPCG(11, 3))
	rightOnes := 0
	for range 10000 {
		d, f, l := randomDisk(r), randomShard(r), randomClaims(r)
		if r.IntN(3) == 0 {
			f = shard()
		}
		all := answers(d, f, l)
		if !reflect.DeepEqual(all, answers(d, f, l)) {
			t.Fatalf("of %.300v: %.300v, and something else", d, all)
		}
		_, n, why := files.Open(d)
		_, why1 := files.Install(d, f)
		_, why2 := files.Publish(d, l)
		_, why3 := files.Claims(d)
		if (why == api.OK) != (n != 0) {
			t.Fatalf("Open(%.300v) is %d, error %d", d, n, why)
		}
		if disk.Check(d) == api.OK {
			rightOnes++
			for _, k := range []int{0, 1, 4} {
				if disk.Check(all[k].(api.Disk)) != api.OK {
					t.Fatalf("of %.300v: %.300v", d, all[k])
				}
			}
			continue
		}
		zero := []any{api.Disk{}, api.Disk{}, api.File{}, []api.Claim(nil), api.Disk{}}
		if !reflect.DeepEqual(all[:5], zero) || why != api.ErrState || why1 != api.ErrState || why2 != api.ErrState || why3 != api.ErrState {
			t.Fatalf("of %.300v: %.300v, errors %d, %d, %d, %d", d, all, why, why1, why2, why3)
		}
	}
	if rightOnes < 2000 || rightOnes > 8000 {
		t.Errorf("%d disks are right", rightOnes)
	}
	if n := runtime.NumGoroutine(); n > before { // an earlier test's own may have ended meanwhile
		t.Errorf("%d goroutines, and %d before", n, before)
	}
}

func TestNilAndEmptyAreAlike(t *testing.T) { // P1
	for _, l := range [][]api.DiskFile{nil, {}} {
		d := api.Disk{Files: l, Fuse: -1}
		open(t, "no files", d, of(safe("boot", beat(1))), 1, api.OK)
		open(t, "no files, down", down(d), down(of()), 0, api.ErrDown)
		told(t, "no files", d, nil, api.OK)
		find(t, "no files", d, shard(), false)
		for _, f := range []api.File{{}, {Cols: []api.Col{}, Rows: []api.Row{}}} {
			put(t, "no rows", d, f, of(safe("s/0/0/0/", install(f))), api.OK)
		}
		for _, f := range []api.File{{Rows: []api.Row{nil}}, {Rows: []api.Row{{}}}} {
			put(t, "an empty row", d, f, of(safe("s/0/0/0/", install(f))), api.OK)
		}
		for _, c := range [][]api.Claim{nil, {}} {
			publish(t, "no claims", d, c, of(safe("pub", claims())), api.OK)
		}
		for _, c := range [][]api.Claim{{{}}, {{Cols: []api.Col{}, Owners: [][]int{}}}} {
			publish(t, "an empty claim", d, c, of(safe("pub", claims(api.Claim{}))), api.OK)
		}
	}
}
