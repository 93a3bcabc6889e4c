package files_test

import (
	"encoding/binary"
	"math"
	"reflect"
	"slices"
	"strings"
	"testing"

	"potsherd/api"
	"potsherd/disk"
	"potsherd/files"
)

func file(name, data string, synced int) api.DiskFile {
	return api.DiskFile{Name: name, Data: data, Synced: synced}
}

// safe is a file all of whose bytes are.
func safe(name, data string) api.DiskFile { return file(name, data, len(data)) }

func of(l ...api.DiskFile) api.Disk { return api.Disk{Files: l, Fuse: -1} }

func fused(d api.Disk, fuse int) api.Disk {
	d.Fuse = fuse
	return d
}

func down(d api.Disk) api.Disk {
	d.Down = true
	return d
}

// with is d with f, too, by its name, where another one may be.
func with(d api.Disk, f api.DiskFile) api.Disk {
	l := append(slices.Clone(without(d, f.Name).Files), f)
	slices.SortFunc(l, func(a, b api.DiskFile) int { return strings.Compare(a.Name, b.Name) })
	d.Files = l
	return d
}

func without(d api.Disk, name string) api.Disk {
	d.Files = slices.DeleteFunc(slices.Clone(d.Files), func(f api.DiskFile) bool { return f.Name == name })
	return d
}

// alike tells whether two disks are, nil and empty lists being so.
func alike(a, b api.Disk) bool {
	if len(a.Files)+len(b.Files) == 0 {
		a.Files, b.Files = nil, nil
	}
	return reflect.DeepEqual(a, b)
}

func big(n int) string { return strings.Repeat("x", n) }

// The texts of the messages that are kept, as chapter 9 says them.

func number(n uint64) string { return string(binary.AppendUvarint(nil, n)) }
func whole(n int64) string   { return string(binary.AppendVarint(nil, n)) }
func text(s string) string   { return number(uint64(len(s))) + s }

func beat(n uint64) string { return "\x01" + number(n) }

func columns(l []api.Col) string {
	s := number(uint64(len(l)))
	for _, c := range l {
		s += text(c.Name) + string([]byte{byte(c.Kind)})
	}
	return s
}

// shardText is that of a message of that kind of f, whose values are nulls, ints and texts.
func shardText(kind string, f api.File) string {
	s := kind + text(f.Table) + number(f.Version.Boot) + number(f.Version.Load) + whole(int64(f.Shard)) + columns(f.Cols)
	if kind == "\x08" {
		return s
	}
	s += number(uint64(len(f.Rows)))
	for _, r := range f.Rows {
		s += number(uint64(len(r)))
		for _, v := range r {
			s += string([]byte{byte(v.Kind)})
			switch v.Kind {
			case api.KindInt:
				s += whole(v.N)
			case api.KindText:
				s += text(v.S)
			}
		}
	}
	return s
}

func install(f api.File) string { return shardText("\x07", f) }

func claims(l ...api.Claim) string {
	s := "\x09" + number(uint64(len(l)))
	for _, c := range l {
		s += text(c.Table) + columns(c.Cols) + number(c.Version.Boot) + number(c.Version.Load) + number(uint64(len(c.Owners)))
		for _, o := range c.Owners {
			s += number(uint64(len(o)))
			for _, n := range o {
				s += whole(int64(n))
			}
		}
	}
	return s
}

// shard is one of a few rows.
func shard() api.File {
	return api.File{
		Table: "t", Version: api.Version{Boot: 1, Load: 2}, Shard: 3,
		Cols: []api.Col{{Name: "k", Kind: api.KindInt}, {Name: "é", Kind: api.KindText}},
		Rows: []api.Row{{{Kind: api.KindInt, N: 7}, {}}, {{Kind: api.KindInt, N: -300}, {Kind: api.KindText, S: "some"}}},
	}
}

// changed is the shard with something else of it.
func changed(change func(f *api.File)) api.File {
	f := shard()
	change(&f)
	return f
}

func published() []api.Claim {
	return []api.Claim{{Table: "t", Cols: shard().Cols, Version: shard().Version, Owners: [][]int{{1, 2}, nil, {3}}}, {Table: "u"}}
}

// wrong are disks that are not right.
func wrong() map[string]api.Disk {
	full := big(api.MaxDisk)
	return map[string]api.Disk{
		"by falling names":  of(safe("pub", claims()), safe("boot", beat(1))),
		"the same name":     of(safe("boot", beat(1)), safe("boot", beat(1))),
		"no name":           of(safe("", "")),
		"safe below 0":      of(file("boot", beat(1), -1)),
		"safe beyond":       of(file("boot", beat(1), 3)),
		"too much":          of(safe("boot", full), safe("tmp", "x")),
		"much too much":     of(safe("boot", beat(1)), safe("pub", full+full)),
		"by falling shards": of(safe("s/1/2/4/t", ""), safe(files.Name(shard()), install(shard()))),
		"without power":     fused(of(safe("", ""), safe("tmp", "")), 0),
		"down":              down(fused(of(safe("", ""), safe("tmp", "")), 0)),
	}
}

// right are disks that are, with what may be on them.
func right() map[string]api.Disk {
	name := files.Name(shard())
	return map[string]api.Disk{
		"empty":             of(),
		"opened":            of(safe("boot", beat(7))),
		"with a rest":       of(safe("boot", beat(7)), file("tmp", "rest", 2)),
		"with all":          of(safe("boot", beat(7)), safe("pub", claims(published()...)), safe(name, install(shard())), safe("tmp", "")),
		"nothing safe":      of(file("boot", beat(300), 0), file("pub", claims(published()...), 1), file(name, install(shard()), 0), file("tmp", "rest", 0)),
		"something else":    of(safe("boot", "x"), safe("pub", "x"), safe(name, "x"), safe("tmp", "x")),
		"others":            of(safe("a", "x"), safe("other", "y"), file("z", "z", 0)),
		"the last opening":  of(safe("boot", beat(math.MaxUint64))),
		"full":              of(safe("boot", beat(1)), safe("other", big(api.MaxDisk-2))),
		"nearly full":       of(safe("boot", beat(1)), safe("other", big(api.MaxDisk-5))),
		"of other messages": of(safe("boot", claims()), safe("pub", beat(1)), safe(name, beat(1))),
	}
}

func TestName(t *testing.T) { // 11.1
	for _, x := range []struct {
		f    api.File
		want string
	}{
		{shard(), "s/1/2/3/t"},
		{api.File{}, "s/0/0/0/"},
		{api.File{Table: "tab le"}, "s/0/0/0/tab le"},
		{api.File{Table: "é/\x00\xff", Shard: 10}, "s/0/0/10/é/\x00\xff"},
		{api.File{Table: "boot", Version: api.Version{Boot: math.MaxUint64, Load: 10}, Shard: 7}, "s/18446744073709551615/10/7/boot"},
		{api.File{Table: "1", Version: api.Version{Boot: 10, Load: math.MaxUint64}, Shard: math.MaxInt}, "s/10/18446744073709551615/9223372036854775807/1"},
		{api.File{Table: "t", Shard: -1}, "s/0/0/-1/t"},
		{api.File{Table: "t", Shard: math.MinInt}, "s/0/0/-9223372036854775808/t"},
		{api.File{Table: big(5000)}, "s/0/0/0/" + big(5000)},
		{changed(func(f *api.File) { f.Rows, f.Cols = nil, nil }), "s/1/2/3/t"}, // these are not in it
		{api.File{Rows: make([]api.Row, 1000)}, "s/0/0/0/"},
	} {
		if got := files.Name(x.f); got != x.want {
			t.Errorf("Name is %.80q; not %.80q", got, x.want)
		}
	}
}

func TestNamesAreTheirOwn(t *testing.T) { // 11.1, 11.2: else a shard would stand for another one
	seen := map[string]int{"boot": 1, "pub": 1, "tmp": 1}
	for _, table := range []string{"", "t", "/", "0", "0/0/", "1/t", "-1", "1/1/1/1", "//"} {
		for _, boot := range []uint64{0, 1, 10, 11} {
			for _, load := range []uint64{0, 1, 11} {
				for _, n := range []int{0, 1, -1, 11} {
					seen[files.Name(api.File{Table: table, Version: api.Version{Boot: boot, Load: load}, Shard: n})]++
				}
			}
		}
	}
	if want := 3 + 9*4*3*4; len(seen) != want {
		t.Errorf("%d names; not %d", len(seen), want)
	}
}

func TestExample(t *testing.T) { // 11.1: the chapter's example
	d, n, why := files.Open(of())
	if n != 1 || why != api.OK || !alike(d, of(safe("boot", "\x01\x01"))) {
		t.Errorf("%v, %d, error %d", d, n, why)
	}
	d, n, why = files.Open(d)
	if n != 2 || why != api.OK || !alike(d, of(safe("boot", "\x01\x02"))) {
		t.Errorf("%v, %d, error %d", d, n, why)
	}
}

// open says what Open makes of a disk.
func open(t *testing.T, name string, d, want api.Disk, number uint64, error api.Errno) {
	t.Helper()
	e, n, why := files.Open(d)
	if !alike(e, want) || n != number || why != error {
		t.Errorf("%s: Open is %.200v, %d, error %d; not %.200v, %d, error %d", name, e, n, why, want, number, error)
	}
}

func TestOpen(t *testing.T) { // 11.1
	for _, n := range []uint64{0, 1, 2, 126, 127, 128, 299, 1 << 32, math.MaxUint64 - 2, math.MaxUint64 - 1} {
		for _, synced := range []int{0, 1, 2} {
			open(t, "a number", of(file("boot", beat(n), synced)), of(safe("boot", beat(n+1))), n+1, api.OK)
		}
	}
	others := of(safe("a", "x"), safe("bood", beat(9)), safe("boots", beat(9)), file("pub", "x", 0), file(files.Name(shard()), "x", 0), safe("tmp2", "y"), file("z", "z", 0))
	open(t, "others", others, with(others, safe("boot", beat(1))), 1, api.OK)
	open(t, "others, and a number", with(others, file("boot", beat(41), 1)), with(others, safe("boot", beat(42))), 42, api.OK)
	for _, fuse := range []int{3, 4, 100, math.MaxInt} {
		open(t, "power", fused(of(), fuse), fused(of(safe("boot", beat(1))), fuse-3), 1, api.OK)
	}
	for _, fuse := range []int{-1, -2, math.MinInt} {
		open(t, "power for ever", fused(of(), fuse), fused(of(safe("boot", beat(1))), fuse), 1, api.OK)
	}
}

func TestRestIsDropped(t *testing.T) { // 11.1
	for _, data := range []string{"", "x", beat(100), claims(published()...), install(shard()), big(api.MaxDisk - 2)} {
		for _, rest := range []api.DiskFile{file("tmp", data, 0), safe("tmp", data)} {
			d := of(safe("boot", beat(4)))
			open(t, "a rest", with(d, rest), of(safe("boot", beat(5))), 5, api.OK)
			open(t, "a rest, power", fused(with(d, rest), 4), fused(of(safe("boot", beat(5))), 0), 5, api.OK)
			open(t, "a rest alone", of(rest), of(safe("boot", beat(1))), 1, api.OK)
		}
	}
	// Of a disk that is full there is room then.
	full := of(safe("boot", beat(4)), safe("other", big(api.MaxDisk-4)), safe("tmp", "xy"))
	open(t, "a full disk's rest", full, with(without(full, "tmp"), safe("boot", beat(5))), 5, api.OK)
}

func TestBootsThatAreNone(t *testing.T) { // 11.1, P2
	for _, data := range []string{
		"", "x", "\x01", "\x00", "\x01\x80", "\x01\x80\x00", "\x01\x07\x00", "\x00\x07", "\x02\x07", "\x0a\x07", "\x01\xff\xff\xff\xff\xff\xff\xff\xff\xff\x02",
		claims(), claims(published()...), install(shard()), shardText("\x08", shard()), "\x06\x01\x01", beat(7) + beat(7), "7", big(70000),
	} {
		for _, synced := range []int{0, len(data)} {
			for _, fuse := range []int{-1, 0, 1, 7} {
				d := fused(of(file("boot", data, synced)), fuse)
				open(t, "no Beat", d, d, 0, api.ErrWire)
			}
		}
	}
	for _, fuse := range []int{-1, 0, 1, 7} {
		d := fused(of(safe("boot", beat(math.MaxUint64)), safe("pub", "x")), fuse)
		open(t, "the greatest number", d, d, 0, api.ErrRange)
	}
	if beat(math.MaxUint64) != "\x01\xff\xff\xff\xff\xff\xff\xff\xff\xff\x01" {
		t.Error("the greatest number's text")
	}
}

func TestOpenErrorsInOrder(t *testing.T) { // 11.1, P3
	noBeat, last, rest := safe("boot", "x"), safe("boot", beat(math.MaxUint64)), file("tmp", "rest", 2)
	open(t, "down, all else wrong", down(fused(of(noBeat, rest), 0)), down(fused(of(noBeat, rest), 0)), 0, api.ErrDown)
	open(t, "down, the last number", down(of(last, rest)), down(of(last, rest)), 0, api.ErrDown)
	open(t, "down", down(of(safe("boot", beat(1)))), down(of(safe("boot", beat(1)))), 0, api.ErrDown)
	open(t, "down, nothing there", down(of()), down(of()), 0, api.ErrDown)
	for _, b := range []api.DiskFile{noBeat, last} {
		why := api.ErrWire
		if b == last {
			why = api.ErrRange
		}
		open(t, "no power to drop the rest", fused(of(b, rest), 0), down(fused(of(b, rest), 0)), 0, api.ErrDown)
		// What was dropped is, though the call is refused then.
		open(t, "power to drop the rest", fused(of(b, rest), 1), fused(of(b), 0), 0, why)
		open(t, "a rest", of(b, rest), of(b), 0, why)
		full := of(b, safe("other", big(api.MaxDisk-len(b.Data))))
		open(t, "full", full, full, 0, why)
	}
}

func TestOpenWithoutRoom(t *testing.T) { // 11.1
	boot := safe("boot", beat(7))
	for room := range 4 {
		d := of(boot, safe("other", big(api.MaxDisk-2-room)))
		if room >= 2 {
			open(t, "room", d, with(d, safe("boot", beat(8))), 8, api.OK)
			continue
		}
		open(t, "no room", d, d, 0, api.ErrFull)
		open(t, "no room, no power", fused(d, 0), fused(d, 0), 0, api.ErrFull)
		e := without(d, "boot")
		open(t, "no room ahead of all", with(e, safe("more", "xy")), with(e, safe("more", "xy")), 0, api.ErrFull)
	}
	// The number's text may need more room than the last one had.
	d := of(safe("boot", beat(127)), safe("other", big(api.MaxDisk-4)))
	open(t, "a byte more", d, d, 0, api.ErrFull)
	d = of(safe("boot", beat(126)), safe("other", big(api.MaxDisk-4)))
	open(t, "no byte more", d, with(d, safe("boot", beat(127))), 127, api.OK)
}

// put says what Install makes of a disk.
func put(t *testing.T, name string, d api.Disk, f api.File, want api.Disk, error api.Errno) {
	t.Helper()
	if e, why := files.Install(d, f); !alike(e, want) || why != error {
		t.Errorf("%s: Install is %.200v, error %d; not %.200v, error %d", name, e, why, want, error)
	}
}

func TestInstall(t *testing.T) { // 11.2
	f := shard()
	const name = "s/1/2/3/t"
	for _, d := range []api.Disk{
		of(), of(safe("boot", beat(1))), of(safe("a", "x"), file("s/1/2/3/u", "x", 0), file("z", "z", 0)),
		of(file(name, install(f), 0)), of(file(name, install(f), len(install(f))-1)), of(file(name, "", 0)), of(safe(name, "x")), of(file(name, "x", 0)),
		of(safe(name, install(f)+"\x00")), of(safe(name, install(f)[1:])), of(safe(name, shardText("\x08", f))),
		of(safe(name, install(changed(func(f *api.File) { f.Rows = nil })))),
	} {
		put(t, "a shard", d, f, with(d, safe(name, install(f))), api.OK)
		put(t, "a shard, power", fused(d, 3), f, fused(with(d, safe(name, install(f))), 0), api.OK)
		// A rest is written over.
		put(t, "a rest", with(d, file("tmp", "rest", 4)), f, with(d, safe(name, install(f))), api.OK)
	}
	for _, g := range []api.File{
		{}, {Table: "boot"}, {Table: "\xff/"}, {Table: big(2048)}, {Shard: -1}, {Shard: math.MinInt, Version: api.Version{Boot: math.MaxUint64, Load: math.MaxUint64}},
		{Cols: make([]api.Col, 64)}, {Rows: make([]api.Row, 512)}, {Rows: []api.Row{make(api.Row, 64)}}, {Table: "t", Rows: []api.Row{{{Kind: api.KindText, S: big(256)}}}},
	} {
		put(t, "any shard", of(), g, of(safe(files.Name(g), install(g))), api.OK)
	}
}

func TestInstalledAlready(t *testing.T) { // 11.2
	f := shard()
	kept := of(safe("s/1/2/3/t", install(f)), file("tmp", "rest", 1))
	for _, fuse := range []int{-1, 0, 1, 7} { // nothing is changed: no power is needed for it
		put(t, "kept", fused(kept, fuse), f, fused(kept, fuse), api.OK)
		put(t, "kept, without a rest", fused(without(kept, "tmp"), fuse), f, fused(without(kept, "tmp"), fuse), api.OK)
	}
	full := with(kept, safe("z", big(api.MaxDisk-len(install(f))-4)))
	put(t, "kept on a full disk", full, f, full, api.OK)
	put(t, "kept, down", down(kept), f, down(kept), api.ErrDown)
	// With a byte that is not safe it is kept once more.
	for synced := range len(install(f)) {
		d := of(file("s/1/2/3/t", install(f), synced))
		put(t, "not all safe", d, f, of(safe("s/1/2/3/t", install(f))), api.OK)
		put(t, "not all safe, no power", fused(d, 0), f, down(fused(with(d, file("tmp", install(f), 0)), 0)), api.ErrDown)
	}
	// What is handed in as an empty list or as none is the same.
	g := changed(func(f *api.File) { f.Rows, f.Cols = []api.Row{}, nil })
	d, _ := files.Install(fused(of(), 3), g)
	g.Rows, g.Cols = nil, []api.Col{}
	put(t, "kept, nil and empty", d, g, d, api.OK)
}

// wrongShards are files that no message has.
func wrongShards() map[string]api.File {
	return map[string]api.File{
		"a long table":  {Table: big(2049)},
		"many columns":  {Cols: make([]api.Col, 65)},
		"many rows":     {Rows: make([]api.Row, 513)},
		"a long row":    {Rows: []api.Row{make(api.Row, 65)}},
		"a wrong value": {Rows: []api.Row{{{N: 1}}}},
		"no kind":       {Rows: []api.Row{{{Kind: api.KindCount}}}},
		"no UTF-8":      {Rows: []api.Row{{{Kind: api.KindText, S: "\xff"}}}},
		"a long text":   {Rows: []api.Row{{{Kind: api.KindText, S: big(257)}}}},
		"a long column": {Cols: []api.Col{{Name: big(2049)}}},
		"all too long":  {Rows: slices.Repeat([]api.Row{{{Kind: api.KindText, S: big(256)}}}, 512)},
	}
}

func TestWrongShards(t *testing.T) { // 11.2, P2, P3
	for name, f := range wrongShards() {
		for on, d := range right() {
			for _, fuse := range []int{-1, 0, 7} {
				put(t, name+" on "+on, fused(d, fuse), f, fused(d, fuse), api.ErrWire)
				put(t, name+" on "+on+", down", down(fused(d, fuse)), f, down(fused(d, fuse)), api.ErrDown)
			}
		}
	}
	// As long as a message may be, and a byte more.
	rows := slices.Repeat([]api.Row{{{Kind: api.KindText, S: big(256)}}}, 250)
	f := api.File{Table: big(200), Rows: rows}
	f.Table += big(api.MaxBytes - len(install(f)))
	if n := len(install(f)); n != api.MaxBytes {
		t.Fatalf("%d bytes", n)
	}
	put(t, "a long message", of(), f, of(safe(files.Name(f), install(f))), api.OK)
	f.Table += "x"
	put(t, "a message too long", of(), f, of(), api.ErrWire)
}

func TestInstallWithoutRoom(t *testing.T) { // 11.2
	f := shard()
	n := len(install(f))
	for _, more := range []int{0, 1, 2, n - 1, n, n + 1} {
		d := of(safe("other", big(api.MaxDisk-more)))
		if more >= n {
			put(t, "room", d, f, with(d, safe(files.Name(f), install(f))), api.OK)
			continue
		}
		put(t, "no room", d, f, d, api.ErrFull)
		put(t, "no room, no power", fused(d, 0), f, fused(d, 0), api.ErrFull) // it is refused ahead of that
	}
	// The room that a rest has may be taken, that of what was there under the name may not: both are there for a while.
	rest := of(safe("other", big(api.MaxDisk-n)), file("tmp", big(n), 0))
	put(t, "a rest's room", rest, f, with(without(rest, "tmp"), safe(files.Name(f), install(f))), api.OK)
	old := of(safe("other", big(api.MaxDisk-n)), file(files.Name(f), big(n), 0))
	put(t, "an old one's room", old, f, old, api.ErrFull)
	short := of(safe("other", big(api.MaxDisk-n+1)), file("tmp", big(n-1), 0))
	put(t, "a rest's room is too little", short, f, short, api.ErrFull)
}

func find(t *testing.T, name string, d api.Disk, f api.File, is bool) {
	t.Helper()
	want := api.File{}
	if is {
		want = f
	}
	if got, ok := files.Find(d, f.Table, f.Version, f.Shard); ok != is || !reflect.DeepEqual(got, want) {
		t.Errorf("%s: Find is %.200v, %v", name, got, ok)
	}
}

func TestFind(t *testing.T) { // 11.2
	f := shard()
	name := files.Name(f)
	for _, d := range []api.Disk{of(safe(name, install(f))), of(file(name, install(f), 0)), of(safe("boot", "x"), file("pub", "x", 0), safe(name, install(f)), safe("tmp", "")), fused(of(safe(name, install(f))), 0)} {
		find(t, "a shard", d, f, true)
		find(t, "a shard, down", down(d), f, false)
		find(t, "another table", d, changed(func(f *api.File) { f.Table = "u" }), false)
		find(t, "no table", d, changed(func(f *api.File) { f.Table = "" }), false)
		find(t, "another opening", d, changed(func(f *api.File) { f.Version.Boot = 2 }), false)
		find(t, "another load", d, changed(func(f *api.File) { f.Version.Load = 1 }), false)
		find(t, "another shard", d, changed(func(f *api.File) { f.Shard = -3 }), false)
	}
	for name, d := range wrong() {
		find(t, name, d, f, false)
	}
	find(t, "an empty disk", of(), f, false)
	for _, g := range []api.File{{}, {Table: "\xff/"}, {Shard: math.MinInt}, {Version: api.Version{Boot: math.MaxUint64, Load: math.MaxUint64}}, {Table: big(2048)}} {
		find(t, "any shard", of(safe(files.Name(g), install(g))), g, true)
		find(t, "none", of(safe("s/0/0/0/x", install(g))), g, false)
	}
	find(t, "a table that may not be", of(safe("s/0/0/0/"+big(5000), "x")), api.File{Table: big(5000)}, false)
}

func TestFindSomethingElse(t *testing.T) { // 11.2: a file of that name that is none of the shard
	f := shard()
	for what, data := range map[string]string{
		"nothing":         "",
		"no message":      "x",
		"cut short":       install(f)[:len(install(f))-1],
		"a byte more":     install(f) + "\x00",
		"that it is kept": shardText("\x08", f),
		"openings":        beat(1),
		"claims":          claims(published()...),
		"another table":   install(changed(func(f *api.File) { f.Table = "u" })),
		"no table":        install(changed(func(f *api.File) { f.Table = "" })),
		"another opening": install(changed(func(f *api.File) { f.Version.Boot = 3 })),
		"another load":    install(changed(func(f *api.File) { f.Version.Load = 3 })),
		"another shard":   install(changed(func(f *api.File) { f.Shard = 4 })),
		"shard -3":        install(changed(func(f *api.File) { f.Shard = -3 })),
	} {
		find(t, what, of(safe(files.Name(f), data)), f, false)
	}
	// Other columns and rows are no other shard.
	g := changed(func(f *api.File) { f.Rows, f.Cols = f.Rows[1:], nil })
	find(t, "other rows", of(safe(files.Name(f), install(g))), g, true)
}

// told says what Claims tells of a disk.
func told(t *testing.T, name string, d api.Disk, want []api.Claim, error api.Errno) {
	t.Helper()
	got, why := files.Claims(d)
	if why != error || len(got)+len(want) > 0 && !reflect.DeepEqual(got, want) {
		t.Errorf("%s: Claims is %.200v, error %d; not %.200v, error %d", name, got, why, want, error)
	}
}

func TestClaims(t *testing.T) { // 11.2, P3
	for name, d := range wrong() {
		told(t, name, d, nil, api.ErrState)
	}
	for _, l := range [][]api.Claim{published(), published()[1:], nil, {{}}, make([]api.Claim, 64), {{Owners: [][]int{{math.MinInt}}, Version: api.Version{Boot: math.MaxUint64, Load: 1}}}} {
		for _, synced := range []int{0, 1, len(claims(l...))} {
			d := of(safe("boot", "x"), file("pub", claims(l...), synced), safe("tmp", "x"))
			told(t, "claims", d, l, api.OK)
			told(t, "claims, no power", fused(d, 0), l, api.OK)
			told(t, "claims, down", down(d), nil, api.ErrDown)
		}
	}
	for _, d := range []api.Disk{of(), of(safe("pu", claims(published()...)), safe("pub2", claims(published()...)), safe("tmp", claims(published()...)))} {
		told(t, "none", d, nil, api.OK)
		told(t, "none, down", down(d), nil, api.ErrDown)
	}
	for _, data := range []string{"", "x", "\x09", "\x09\x01", claims() + "\x00", claims(published()...)[1:], beat(1), install(shard()), claims(make([]api.Claim, 65)...), big(70000)} {
		told(t, "something else", of(safe("pub", data)), nil, api.ErrWire)
		told(t, "something else, down", down(of(safe("pub", data))), nil, api.ErrDown)
	}
}

func publish(t *testing.T, name string, d api.Disk, l []api.Claim, want api.Disk, error api.Errno) {
	t.Helper()
	if e, why := files.Publish(d, l); !alike(e, want) || why != error {
		t.Errorf("%s: Publish is %.200v, error %d; not %.200v, error %d", name, e, why, want, error)
	}
}

// wrongClaims are those that no message has.
func wrongClaims() map[string][]api.Claim {
	return map[string][]api.Claim{
		"many":          make([]api.Claim, 65),
		"a long table":  {{Table: big(2049)}},
		"many columns":  {{Cols: make([]api.Col, 65)}},
		"a long column": {{Cols: []api.Col{{Name: big(2049)}}}},
		"many shards":   {{Owners: make([][]int, 65)}},
		"many owners":   {{Owners: [][]int{make([]int, 65)}}},
		"all too long":  slices.Repeat([]api.Claim{{Table: big(2000)}}, 64),
	}
}

func TestPublish(t *testing.T) { // 11.2
	for name, d := range right() {
		for _, l := range [][]api.Claim{published(), nil, {}, {{}}, make([]api.Claim, 64), {{Table: big(2048), Cols: make([]api.Col, 64), Owners: [][]int{make([]int, 64)}}}} {
			error, want := api.OK, with(without(d, "tmp"), safe("pub", claims(l...)))
			if name == "full" || name == "nearly full" && len(claims(l...)) > 3 {
				error, want = api.ErrFull, d
			}
			publish(t, name, d, l, want, error)
			publish(t, name+", down", down(d), l, down(d), api.ErrDown)
		}
		for what, l := range wrongClaims() {
			for _, fuse := range []int{-1, 0, 7} {
				publish(t, what+" on "+name, fused(d, fuse), l, fused(d, fuse), api.ErrWire)
				publish(t, what+" on "+name+", down", down(fused(d, fuse)), l, down(fused(d, fuse)), api.ErrDown)
			}
		}
	}
	// They are kept once more, though they are there.
	d := of(safe("pub", claims(published()...)))
	publish(t, "the same", fused(d, 5), published(), fused(d, 2), api.OK)
	publish(t, "the same, no power", fused(d, 0), published(), down(fused(with(d, file("tmp", claims(published()...), 0)), 0)), api.ErrDown)
	full := with(d, safe("z", big(api.MaxDisk-len(claims(published()...)))))
	publish(t, "the same, no room", full, published(), full, api.ErrFull)
}

func TestWrongDisks(t *testing.T) { // 11.1, 11.2, P2, P3: whatever else is wrong
	for name, d := range wrong() {
		if disk.Check(d) != api.ErrState {
			t.Fatal(name, "is right")
		}
		if e, n, why := files.Open(d); !reflect.DeepEqual(e, api.Disk{}) || n != 0 || why != api.ErrState {
			t.Errorf("%s: Open is %.200v, %d, error %d", name, e, n, why)
		}
		for _, f := range []api.File{shard(), {}, {Table: big(2049)}} {
			if e, why := files.Install(d, f); !reflect.DeepEqual(e, api.Disk{}) || why != api.ErrState {
				t.Errorf("%s: Install is %.200v, error %d", name, e, why)
			}
		}
		for _, l := range [][]api.Claim{published(), nil, make([]api.Claim, 65)} {
			if e, why := files.Publish(d, l); !reflect.DeepEqual(e, api.Disk{}) || why != api.ErrState {
				t.Errorf("%s: Publish is %.200v, error %d", name, e, why)
			}
		}
	}
}

func TestRightDisks(t *testing.T) { // 11.1, 11.2: of the rest of these tests
	for name, d := range right() {
		if disk.Check(d) != api.OK {
			t.Error(name, "is not right")
		}
	}
}
