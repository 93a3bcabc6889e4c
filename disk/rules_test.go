package disk_test

import (
	"fmt"
	"maps"
	"math"
	"math/rand/v2"
	"reflect"
	"runtime"
	"slices"
	"strings"
	gosync "sync"
	"testing"
	"unsafe"

	"potsherd/api"
	"potsherd/disk"
)

func pick[T any](d *rand.Rand, l ...T) T { return l[d.IntN(len(l))] }

// plain is a file of the second disk, which holds the chapter's words once more: files in a map, bytes that are safe and bytes that are not.
type plain struct{ safe, other string }

func (p plain) all() string { return p.safe + p.other }

type second struct {
	files map[string]plain
	down  bool
	fuse  int
}

func secondOf(d api.Disk) second {
	s := second{map[string]plain{}, d.Down, d.Fuse}
	for _, f := range d.Files {
		s.files[f.Name] = plain{f.Data[:f.Synced], f.Data[f.Synced:]}
	}
	return s
}

func (s second) disk() api.Disk {
	d := api.Disk{Down: s.down, Fuse: s.fuse}
	for _, name := range slices.Sorted(maps.Keys(s.files)) {
		p := s.files[name]
		d.Files = append(d.Files, api.DiskFile{Name: name, Data: p.all(), Synced: len(p.safe)})
	}
	return d
}

// refuses is why a change may not be, whatever the power does.
func (s second) refuses(x api.DiskStep) api.Errno {
	_, there := s.files[x.Name]
	switch {
	case x.Kind == 0 || x.Kind > 4:
		return api.ErrType
	case s.down:
		return api.ErrDown
	case x.Kind == api.DiskPut && x.Name == "":
		return api.ErrUnknown
	case x.Kind == api.DiskPut:
		all := len(x.Data)
		for name, p := range s.files {
			if name != x.Name {
				all += len(p.all())
			}
		}
		if all > 1<<20 {
			return api.ErrFull
		}
	case !there || x.Kind == api.DiskMove && x.To == "":
		return api.ErrUnknown
	}
	return api.OK
}

func (s *second) do(x api.DiskStep) api.Errno {
	if why := s.refuses(x); why != api.OK {
		return why
	}
	f := s.files[x.Name]
	if x.Kind == api.DiskPut {
		s.files[x.Name] = plain{other: x.Data}
	}
	if s.fuse == 0 {
		s.down = true
		return api.ErrDown
	}
	switch x.Kind {
	case api.DiskSync:
		s.files[x.Name] = plain{safe: f.all()}
	case api.DiskMove:
		delete(s.files, x.Name)
		s.files[x.To] = f
	case api.DiskDrop:
		delete(s.files, x.Name)
	}
	if s.fuse > 0 {
		s.fuse--
	}
	return api.OK
}

func (s *second) crash(keep int) {
	for name, p := range s.files {
		some := ""
		for i := 0; i < keep && i < len(p.other); i++ {
			some += p.other[i : i+1]
		}
		s.files[name] = plain{safe: p.safe + some}
	}
	s.down, s.fuse = false, -1
}

func randomStep(d *rand.Rand) api.DiskStep {
	name := func() string { return pick(d, "a", "a", "b", "c", "é", "aa", "", "zz") }
	s := api.DiskStep{Kind: api.DiskKind(pick(d, 1, 1, 1, 2, 2, 3, 3, 4, 0, 5, 255)), Name: name(), To: name(), Data: pick(d, "", "x", "xy", "other", "\x00\xff", big(d.IntN(40)))}
	if d.IntN(300) == 0 {
		s.Data = pick(d, big(api.MaxDisk-10), big(api.MaxDisk), big(api.MaxDisk+1))
	}
	return s
}

func TestDisksAsTheDocumentSays(t *testing.T) { // 10.1, 10.4
	d := rand.New(rand.NewPCG(10, 1))
	seen := make(map[api.Errno]int)
	crashes, fuses := 0, 0
	for range 2000 {
		now := api.Disk{Fuse: pick(d, -1, -1, 0, 1, 5, 20)}
		s := secondOf(now)
		for range 60 {
			x := randomStep(d)
			next, why := disk.Do(now, x)
			wasUp := !s.down
			want := s.do(x)
			if why != want || !alike(next, s.disk()) {
				t.Fatalf("Do(%.200v, %.80v) is %.200v, error %d; not %.200v, error %d", now, x, next, why, s.disk(), want)
			}
			if disk.Check(next) != api.OK {
				t.Fatalf("Do(%.200v, %.80v) is not right: %.200v", now, x, next)
			}
			if wasUp && s.down {
				fuses++
			}
			seen[why]++
			now = next
			if name := pick(d, "a", "b", "c", "é", ""); true {
				p, ok := s.files[name]
				got, why := disk.Read(now, name)
				switch {
				case s.down && (why != api.ErrDown || got != ""), !s.down && !ok && (why != api.ErrUnknown || got != ""), !s.down && ok && (why != api.OK || got != p.all()):
					t.Fatalf("Read(%.200v, %q) is %.80q, error %d", now, name, got, why)
				}
			}
			if d.IntN(12) == 0 {
				keep := pick(d, -1, 0, 0, 1, 2, 10, math.MaxInt, math.MinInt)
				next, why := disk.Crash(now, keep)
				s.crash(keep)
				if why != api.OK || !alike(next, s.disk()) {
					t.Fatalf("Crash(%.200v, %d) is %.200v, error %d; not %.200v", now, keep, next, why, s.disk())
				}
				crashes++
				s.fuse = pick(d, -1, 0, 3, 9)
				now = fused(next, s.fuse)
			}
		}
	}
	for _, why := range []api.Errno{api.OK, api.ErrType, api.ErrDown, api.ErrUnknown, api.ErrFull} {
		if seen[why] < 20 {
			t.Errorf("error %d was seen %d times", why, seen[why])
		}
	}
	if crashes < 2500 || fuses < 500 {
		t.Errorf("%d crashes, the power went %d times", crashes, fuses)
	}
}

func TestSafe(t *testing.T) { // 10.3
	d := rand.New(rand.NewPCG(10, 2))
	held := 0
	for range 3000 {
		now := of(file("b", "some", 1), file("c", "other", 0))
		now, _ = disk.Do(now, put("a", "all of it"))
		now, _ = disk.Do(now, sync("a"))
		now.Fuse = d.IntN(8) - 1
		name := "a"
		for range d.IntN(12) {
			x := randomStep(d)
			if x.Name == name || x.Kind == api.DiskMove && x.To == name {
				continue // that would touch it
			}
			now, _ = disk.Do(now, x)
			if d.IntN(4) == 0 {
				now, _ = disk.Crash(now, d.IntN(5)-1)
				now.Fuse = d.IntN(8) - 1
			}
		}
		names := namesOf(now)
		after, why := disk.Crash(now, d.IntN(9)-2)
		if s, why1 := disk.Read(after, name); s != "all of it" || why != api.OK || why1 != api.OK {
			t.Fatalf("of %v is left %v: %q, errors %d and %d", now, after, s, why, why1)
		}
		if !slices.Equal(namesOf(after), names) {
			t.Fatalf("of %v is left %v", now, after)
		}
		// Behind the crash all that is left is safe.
		if again, _ := disk.Crash(after, -1); !alike(again, after) {
			t.Fatalf("of %v is left %v", after, again)
		}
		if now.Down {
			held++
		}
	}
	if held < 150 {
		t.Errorf("%d times the power went", held)
	}
}

func namesOf(d api.Disk) (l []string) {
	for _, f := range d.Files {
		l = append(l, f.Name)
	}
	return l
}

// within tells whether a's bytes lie in b's memory.
func within(a, b string) bool {
	if a == "" || b == "" {
		return false
	}
	x, y := uintptr(unsafe.Pointer(unsafe.StringData(a))), uintptr(unsafe.Pointer(unsafe.StringData(b)))
	return x >= y && x < y+uintptr(len(b))
}

// answers are what all calls make of a disk.
func answers(d api.Disk) []api.Disk {
	a, _ := disk.Crash(d, 1)
	b, _ := disk.Crash(d, -1)
	l := []api.Disk{a, b}
	for _, s := range steps() {
		e, _ := disk.Do(d, s)
		l = append(l, e)
	}
	return l
}

// steps are of each kind, done and refused.
func steps() []api.DiskStep {
	return []api.DiskStep{
		{}, put("a", "text"), put("new", "text"), put("", ""), put("a", big(api.MaxDisk+1)), sync("a"), sync("b"), sync("q"),
		move("a", "b"), move("a", "q"), move("b", "a"), move("a", "a"), move("q", "a"), drop("a"), drop("b"), drop("q"),
	}
}

func TestNewMemory(t *testing.T) { // 10.2
	data, name, more := strings.Clone("some bytes"), strings.Clone("a"), strings.Clone("others")
	for _, fuse := range []int{-1, 0, 5} {
		for _, isDown := range []bool{false, true} {
			d := api.Disk{Files: append(make([]api.DiskFile, 0, 9), file(name, data, 4), file("b", more, 6)), Fuse: fuse, Down: isDown}
			list := d.Files[:9]
			before := fmt.Sprint(list)
			for i, e := range answers(d) {
				for k, f := range e.Files {
					if within(f.Data, data) || within(f.Data, more) || within(f.Name, name) {
						t.Errorf("answer %d: file %d lies in what was handed in", i, k)
					}
				}
				for k := range e.Files {
					e.Files[k] = file("changed", "changed", 7)
				}
				_ = append(e.Files, file("changed", "changed", 7))
				if fmt.Sprint(list) != before {
					t.Fatalf("answer %d shares memory with what was handed in: %v", i, list)
				}
			}
			if s, _ := disk.Read(d, "a"); within(s, data) {
				t.Error("Read's answer lies in what was handed in")
			}
		}
	}
	s := put(strings.Clone("name"), strings.Clone("bytes"))
	for _, fuse := range []int{-1, 0} {
		d, _ := disk.Do(api.Disk{Fuse: fuse}, s)
		if within(d.Files[0].Name, s.Name) || within(d.Files[0].Data, s.Data) {
			t.Error("a file that was put lies in what was handed in")
		}
	}
	s = move("a", strings.Clone("name"))
	if d, _ := disk.Do(of(file("a", "", 0)), s); within(d.Files[0].Name, s.To) {
		t.Error("a name lies in what was handed in")
	}
}

func TestNothingIsChanged(t *testing.T) { // 10.2
	for _, fuse := range []int{-1, 0, 5} {
		d := api.Disk{Files: append(make([]api.DiskFile, 0, 9), file("a", "some bytes", 4), file("b", "others", 6)), Fuse: fuse}
		copy(d.Files[2:9], []api.DiskFile{file("behind", "behind", 1), file("more", "", 0)})
		before := fmt.Sprint(d, d.Files[:9])
		first := fmt.Sprint(answers(d))
		disk.Check(d)
		disk.Read(d, "a")
		if fmt.Sprint(d, d.Files[:9]) != before {
			t.Error("what was handed in was changed:", d, d.Files[:9])
		}
		d.Files = slices.Clip(slices.Clone(d.Files))
		if fmt.Sprint(answers(d)) != first {
			t.Error("what is answered hangs on more than the arguments")
		}
	}
}

func TestSideBySide(t *testing.T) { // 10.2, P3: as nothing is changed, many may ask at once
	d := of(file("a", "some bytes", 4), file("b", "others", 6))
	want := answers(d)
	var w gosync.WaitGroup
	for range 8 {
		w.Go(func() {
			for range 20 {
				if got := answers(d); !reflect.DeepEqual(got, want) {
					t.Errorf("%v; not %v", got, want)
				}
			}
		})
	}
	w.Wait()
}

func TestAnything(t *testing.T) { // P1, P2, P3, P4
	before := runtime.NumGoroutine()
	d := rand.New(rand.NewPCG(10, 3))
	number := func() int { return pick(d, 0, 0, 1, 1, 2, 3, -1, 9, math.MaxInt, math.MinInt) }
	rightOnes := 0
	for range 20000 {
		x := api.Disk{Down: d.IntN(4) == 0, Fuse: number()}
		for range d.IntN(4) {
			x.Files = append(x.Files, file(pick(d, "a", "b", "c", "", "é"), pick(d, "", "x", "xy", "xyz", big(2000)), number()))
		}
		if d.IntN(4) > 0 {
			slices.SortFunc(x.Files, func(a, b api.DiskFile) int { return strings.Compare(a.Name, b.Name) })
		}
		s, keep := randomStep(d), number()
		e, why := disk.Do(x, s)
		again, why1 := disk.Do(x, s)
		c, why2 := disk.Crash(x, keep)
		r, why3 := disk.Read(x, s.Name)
		if !reflect.DeepEqual(e, again) || why != why1 {
			t.Fatalf("Do(%.200v, %.80v) is %.200v and %.200v", x, s, e, again)
		}
		if disk.Check(x) == api.OK {
			rightOnes++
			if disk.Check(e) != api.OK || disk.Check(c) != api.OK || why == api.ErrState || why2 != api.OK || why3 != api.OK && r != "" {
				t.Fatalf("of %.200v: %.200v, error %d; %.200v, error %d; %.80q, error %d", x, e, why, c, why2, r, why3)
			}
			continue
		}
		if !reflect.DeepEqual(e, api.Disk{}) || !reflect.DeepEqual(c, api.Disk{}) || r != "" || why != api.ErrState || why2 != api.ErrState || why3 != api.ErrState {
			t.Fatalf("of %.200v: %.200v, error %d; %.200v, error %d; %.80q, error %d", x, e, why, c, why2, r, why3)
		}
	}
	if rightOnes < 3000 || rightOnes > 17000 {
		t.Errorf("%d disks are right", rightOnes)
	}
	if n := runtime.NumGoroutine(); n > before { // an earlier test's own may have ended meanwhile
		t.Errorf("%d goroutines, and %d before", n, before)
	}
}

func TestNilAndEmptyAreAlike(t *testing.T) { // P1
	for _, files := range [][]api.DiskFile{nil, {}} {
		d := api.Disk{Files: files, Fuse: -1}
		e, why := disk.Do(d, put("a", "x"))
		c, why1 := disk.Crash(d, 3)
		n, why2 := disk.Do(d, drop("a"))
		_, why3 := disk.Read(d, "a")
		if disk.Check(d) != api.OK || !alike(e, of(file("a", "x", 0))) || why != api.OK || !alike(c, of()) || why1 != api.OK || !alike(n, d) || why2 != api.ErrUnknown || why3 != api.ErrUnknown {
			t.Errorf("%v, error %d; %v, error %d; %v, error %d; error %d", e, why, c, why1, n, why2, why3)
		}
	}
}
