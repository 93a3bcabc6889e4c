package disk_test

import (
	"math"
	"reflect"
	"strings"
	"testing"

	"potsherd/api"
	"potsherd/disk"
)

func put(name, data string) api.DiskStep {
	return api.DiskStep{Kind: api.DiskPut, Name: name, Data: data}
}

func sync(name string) api.DiskStep     { return api.DiskStep{Kind: api.DiskSync, Name: name} }
func move(name, to string) api.DiskStep { return api.DiskStep{Kind: api.DiskMove, Name: name, To: to} }
func drop(name string) api.DiskStep     { return api.DiskStep{Kind: api.DiskDrop, Name: name} }

func file(name, data string, synced int) api.DiskFile {
	return api.DiskFile{Name: name, Data: data, Synced: synced}
}

func of(files ...api.DiskFile) api.Disk { return api.Disk{Files: files, Fuse: -1} }

func fused(d api.Disk, fuse int) api.Disk {
	d.Fuse = fuse
	return d
}

func down(d api.Disk) api.Disk {
	d.Down = true
	return d
}

// alike tells whether two disks are, nil and empty lists being so.
func alike(a, b api.Disk) bool {
	if len(a.Files)+len(b.Files) == 0 {
		a.Files, b.Files = nil, nil
	}
	return reflect.DeepEqual(a, b)
}

// big is a file of n bytes.
func big(n int) string { return strings.Repeat("x", n) }

// wrong are disks that are not right.
func wrong() map[string]api.Disk {
	return map[string]api.Disk{
		"by falling names":         of(file("b", "", 0), file("a", "", 0)),
		"the last one ahead":       of(file("a", "", 0), file("c", "", 0), file("b", "", 0)),
		"the same name":            of(file("a", "", 0), file("a", "x", 0)),
		"the same name, behind":    of(file("a", "", 0), file("b", "", 0), file("b", "", 0)),
		"no name":                  of(file("", "x", 0)),
		"no name, too":             of(file("", "", 0), file("a", "", 0)),
		"no name behind":           of(file("a", "", 0), file("", "", 0)),
		"by no letters":            of(file("é", "", 0), file("z", "", 0)),
		"capitals behind":          of(file("a", "", 0), file("B", "", 0)),
		"by length":                of(file("b", "", 0), file("aa", "", 0)),
		"longer ahead":             of(file("aa", "", 0), file("a", "", 0)),
		"safe below 0":             of(file("a", "x", -1)),
		"safe far below":           of(file("a", "x", math.MinInt)),
		"safe beyond":              of(file("a", "x", 2)),
		"safe beyond nothing":      of(file("a", "", 1)),
		"safe far beyond":          of(file("a", "x", math.MaxInt)),
		"the second, safe beyond":  of(file("a", "x", 1), file("b", "x", 2)),
		"too much":                 of(file("a", big(api.MaxDisk+1), 0)),
		"too much together":        of(file("a", big(api.MaxDisk), 0), file("b", "x", 0)),
		"too much of many":         of(file("a", big(api.MaxDisk/2), 0), file("b", big(api.MaxDisk/2), 9), file("c", "", 0), file("d", "x", 1)),
		"far too much":             of(file("a", big(api.MaxDisk), 0), file("b", big(api.MaxDisk), 0), file("c", big(api.MaxDisk), 0)),
		"wrong, and down":          down(of(file("", "", 0))),
		"wrong, and without power": fused(of(file("", "", 0)), 0),
	}
}

// right are disks that are.
func right() map[string]api.Disk {
	return map[string]api.Disk{
		"zero":            {},
		"empty":           of(),
		"a file":          of(file("a", "xy", 0)),
		"of nothing":      of(file("a", "", 0)),
		"partly safe":     of(file("a", "xy", 1)),
		"safe":            of(file("a", "xy", 2)),
		"some":            of(file("a", "xy", 1), file("b", "", 0), file("c", "z", 1)),
		"by bytes":        of(file("B", "", 0), file("a", "", 0), file("aa", "", 0), file("z", "", 0), file("é", "", 0), file("\xff", "", 0)),
		"odd names":       of(file("\x00", "\x00", 0), file(" ", "\xff", 1), file("a\nb", "\n", 0)),
		"a long name":     of(file(big(5000), "", 0)),
		"full":            of(file("a", big(api.MaxDisk), 0)),
		"full of many":    of(file("a", big(api.MaxDisk-3), 7), file("b", "xyz", 3), file("c", "", 0)),
		"down":            down(of(file("a", "xy", 0))),
		"down with power": down(fused(of(file("a", "xy", 0)), 7)),
		"without power":   fused(of(file("a", "xy", 0)), 0),
		"much power":      fused(of(file("a", "xy", 0)), math.MaxInt),
		"power for ever":  fused(of(file("a", "xy", 0)), math.MinInt),
	}
}

func TestCheck(t *testing.T) { // 10.1
	for name, d := range right() {
		if why := disk.Check(d); why != api.OK {
			t.Errorf("%s: error %d", name, why)
		}
	}
	for name, d := range wrong() {
		if why := disk.Check(d); why != api.ErrState {
			t.Errorf("%s: error %d", name, why)
		}
	}
}

func TestWrongDisks(t *testing.T) { // 10.1, P2, P3: whatever else is wrong
	for name, d := range wrong() {
		for _, s := range []api.DiskStep{{}, {Kind: 9}, put("a", "x"), put("", "x"), put("a", big(api.MaxDisk+1)), sync("a"), sync("q"), move("a", ""), move("a", "a"), drop("a"), drop("")} {
			if e, why := disk.Do(d, s); !reflect.DeepEqual(e, api.Disk{}) || why != api.ErrState {
				t.Errorf("%s: Do(%.40v) is %.80v, error %d", name, s, e, why)
			}
		}
		for _, file := range []string{"", "a", "q"} {
			if s, why := disk.Read(d, file); s != "" || why != api.ErrState {
				t.Errorf("%s: Read is %.80q, error %d", name, s, why)
			}
		}
		for _, keep := range []int{-1, 0, 1, math.MaxInt} {
			if e, why := disk.Crash(d, keep); !reflect.DeepEqual(e, api.Disk{}) || why != api.ErrState {
				t.Errorf("%s: Crash is %.80v, error %d", name, e, why)
			}
		}
	}
}

// step is a change of a disk, and what becomes of it.
type step struct {
	d    api.Disk
	s    api.DiskStep
	want api.Disk
	why  api.Errno
}

func TestDone(t *testing.T) { // 10.1
	ab := of(file("a", "xy", 1), file("b", "z", 1))
	full := of(file("a", big(api.MaxDisk-1), 0), file("b", "z", 1))
	for name, x := range map[string]step{
		"put":                        {of(), put("a", "xy"), of(file("a", "xy", 0)), api.OK},
		"put nothing":                {of(), put("a", ""), of(file("a", "", 0)), api.OK},
		"put once more":              {ab, put("a", "new"), of(file("a", "new", 0), file("b", "z", 1)), api.OK},
		"put the same":               {ab, put("b", "z"), of(file("a", "xy", 1), file("b", "z", 0)), api.OK},
		"put ahead":                  {ab, put("A", "q"), of(file("A", "q", 0), file("a", "xy", 1), file("b", "z", 1)), api.OK},
		"put between":                {ab, put("aa", "q"), of(file("a", "xy", 1), file("aa", "q", 0), file("b", "z", 1)), api.OK},
		"put behind":                 {ab, put("é", "q"), of(file("a", "xy", 1), file("b", "z", 1), file("é", "q", 0)), api.OK},
		"put by bytes":               {of(file("é", "", 0)), put("z", "q"), of(file("z", "q", 0), file("é", "", 0)), api.OK},
		"put any bytes":              {of(), put("\xff\x00", "\x00\xff"), of(file("\xff\x00", "\x00\xff", 0)), api.OK},
		"put, To no matter":          {of(), api.DiskStep{Kind: api.DiskPut, Name: "a", To: "b", Data: "x"}, of(file("a", "x", 0)), api.OK},
		"put all that there is room": {ab, put("c", big(api.MaxDisk-3)), of(file("a", "xy", 1), file("b", "z", 1), file("c", big(api.MaxDisk-3), 0)), api.OK},
		"put into all":               {of(), put("a", big(api.MaxDisk)), of(file("a", big(api.MaxDisk), 0)), api.OK},
		"put for what was there":     {full, put("a", big(api.MaxDisk-1)), full, api.OK},
		"put nothing, if full":       {full, put("c", ""), of(file("a", big(api.MaxDisk-1), 0), file("b", "z", 1), file("c", "", 0)), api.OK},
		"put for another one":        {full, put("b", "q"), of(file("a", big(api.MaxDisk-1), 0), file("b", "q", 0)), api.OK},
		"sync":                       {ab, sync("a"), of(file("a", "xy", 2), file("b", "z", 1)), api.OK},
		"sync once more":             {ab, sync("b"), ab, api.OK},
		"sync nothing":               {of(file("a", "", 0)), sync("a"), of(file("a", "", 0)), api.OK},
		"sync, the others no matter": {ab, api.DiskStep{Kind: api.DiskSync, Name: "a", To: "b", Data: "qq"}, of(file("a", "xy", 2), file("b", "z", 1)), api.OK},
		"move":                       {ab, move("a", "c"), of(file("b", "z", 1), file("c", "xy", 1)), api.OK},
		"move ahead":                 {ab, move("b", "A"), of(file("A", "z", 1), file("a", "xy", 1)), api.OK},
		"move to its place":          {ab, move("a", "aa"), of(file("aa", "xy", 1), file("b", "z", 1)), api.OK},
		"move onto another one":      {ab, move("a", "b"), of(file("b", "xy", 1)), api.OK},
		"move onto one ahead":        {ab, move("b", "a"), of(file("a", "z", 1)), api.OK},
		"move onto itself":           {ab, move("a", "a"), ab, api.OK},
		"move the last onto itself":  {ab, move("b", "b"), ab, api.OK},
		"move onto one of three":     {of(file("a", "1", 0), file("b", "22", 1), file("c", "333", 2)), move("c", "a"), of(file("a", "333", 2), file("b", "22", 1)), api.OK},
		"move, Data no matter":       {ab, api.DiskStep{Kind: api.DiskMove, Name: "a", To: "b", Data: "qq"}, of(file("b", "xy", 1)), api.OK},
		"move, if full":              {full, move("a", "c"), of(file("b", "z", 1), file("c", big(api.MaxDisk-1), 0)), api.OK},
		"drop":                       {ab, drop("a"), of(file("b", "z", 1)), api.OK},
		"drop the last":              {ab, drop("b"), of(file("a", "xy", 1)), api.OK},
		"drop the only one":          {of(file("a", "", 0)), drop("a"), of(), api.OK},
		"drop, To no matter":         {ab, api.DiskStep{Kind: api.DiskDrop, Name: "a", To: "b", Data: "qq"}, of(file("b", "z", 1)), api.OK},
	} {
		for fuse, behind := range map[int]int{-1: -1, -7: -7, math.MinInt: math.MinInt, 1: 0, 2: 1, 100: 99, math.MaxInt: math.MaxInt - 1} {
			if e, why := disk.Do(fused(x.d, fuse), x.s); !alike(e, fused(x.want, behind)) || why != x.why {
				t.Errorf("%s, Fuse %d: %.200v, error %d; not %.200v", name, fuse, e, why, x.want)
			}
		}
	}
}

func TestRefused(t *testing.T) { // 10.1, 10.4, P2, P3
	ab := of(file("a", "xy", 1), file("b", "z", 1))
	for name, x := range map[string]struct {
		d   api.Disk
		s   api.DiskStep
		why api.Errno
	}{
		"no kind":                       {ab, api.DiskStep{Name: "a"}, api.ErrType},
		"a kind too many":               {ab, api.DiskStep{Kind: api.DiskCount, Name: "a"}, api.ErrType},
		"the last kind":                 {ab, api.DiskStep{Kind: 255, Name: "a", To: "b", Data: "x"}, api.ErrType},
		"no kind, and no name":          {ab, api.DiskStep{}, api.ErrType},
		"put without a name":            {ab, put("", "x"), api.ErrUnknown},
		"put too much without a name":   {ab, put("", big(api.MaxDisk+1)), api.ErrUnknown},
		"put too much":                  {ab, put("c", big(api.MaxDisk-2)), api.ErrFull},
		"put too much for one":          {ab, put("a", big(api.MaxDisk)), api.ErrFull},
		"put far too much":              {of(), put("a", big(api.MaxDisk+1)), api.ErrFull},
		"put a byte too much":           {of(file("a", big(api.MaxDisk), 5)), put("b", "x"), api.ErrFull},
		"put more for all that was":     {of(file("a", big(api.MaxDisk), 5)), put("a", big(api.MaxDisk+1)), api.ErrFull},
		"sync what is not there":        {ab, sync("c"), api.ErrUnknown},
		"sync without a name":           {ab, sync(""), api.ErrUnknown},
		"sync a part of a name":         {of(file("ab", "x", 0)), sync("a"), api.ErrUnknown},
		"move what is not there":        {ab, move("c", "a"), api.ErrUnknown},
		"move what is not there, at it": {ab, move("c", "c"), api.ErrUnknown},
		"move without a name":           {ab, move("", "a"), api.ErrUnknown},
		"move to no name":               {ab, move("a", ""), api.ErrUnknown},
		"move nothing to no name":       {ab, move("", ""), api.ErrUnknown},
		"drop what is not there":        {ab, drop("c"), api.ErrUnknown},
		"drop without a name":           {ab, drop(""), api.ErrUnknown},
		"drop in an empty one":          {of(), drop("a"), api.ErrUnknown},
	} {
		for _, fuse := range []int{-1, -7, 0, 1, 5, math.MaxInt, math.MinInt} { // what is refused burns nothing, and is refused ahead of the power's end
			d := fused(x.d, fuse)
			if e, why := disk.Do(d, x.s); !alike(e, d) || why != x.why {
				t.Errorf("%s, Fuse %d: %.80v, error %d; not %d", name, fuse, e, why, x.why)
			}
			d = down(d)
			want := api.ErrDown
			if x.why == api.ErrType {
				want = api.ErrType
			}
			if e, why := disk.Do(d, x.s); !alike(e, d) || why != want {
				t.Errorf("%s, down, Fuse %d: %.80v, error %d; not %d", name, fuse, e, why, want)
			}
		}
	}
}

func TestDown(t *testing.T) { // 10.1, 10.4: nothing is done, and nothing is asked
	for _, fuse := range []int{-1, 0, 1, 7} {
		d := down(fused(of(file("a", "xy", 1), file("b", "z", 1)), fuse))
		for _, s := range []api.DiskStep{put("a", "q"), put("c", "q"), put("", ""), sync("a"), move("a", "b"), move("a", "a"), drop("a"), drop("q")} {
			if e, why := disk.Do(d, s); !alike(e, d) || why != api.ErrDown {
				t.Errorf("Do(%v) is %v, error %d", s, e, why)
			}
		}
		for _, name := range []string{"a", "b", "c", ""} {
			if s, why := disk.Read(d, name); s != "" || why != api.ErrDown {
				t.Errorf("Read(%q) is %q, error %d", name, s, why)
			}
		}
	}
}

func TestFuse(t *testing.T) { // 10.1, 10.4: of 0 the power goes
	ab := fused(of(file("a", "xy", 1), file("b", "z", 1)), 0)
	for name, x := range map[string]step{
		"put":             {ab, put("c", "q"), of(file("a", "xy", 1), file("b", "z", 1), file("c", "q", 0)), api.ErrDown},
		"put once more":   {ab, put("a", "new"), of(file("a", "new", 0), file("b", "z", 1)), api.ErrDown},
		"put the same":    {ab, put("b", "z"), of(file("a", "xy", 1), file("b", "z", 0)), api.ErrDown},
		"put nothing":     {ab, put("b", ""), of(file("a", "xy", 1), file("b", "", 0)), api.ErrDown},
		"sync":            {ab, sync("a"), ab, api.ErrDown},
		"move":            {ab, move("a", "c"), ab, api.ErrDown},
		"move onto one":   {ab, move("a", "b"), ab, api.ErrDown},
		"move at itself":  {ab, move("a", "a"), ab, api.ErrDown},
		"drop":            {ab, drop("a"), ab, api.ErrDown},
		"of a zero disk":  {api.Disk{}, put("a", "x"), of(file("a", "x", 0)), api.ErrDown},
		"a full one":      {fused(of(file("a", big(api.MaxDisk), 0)), 0), put("a", big(api.MaxDisk)), of(file("a", big(api.MaxDisk), 0)), api.ErrDown},
		"nothing of it":   {fused(of(file("a", big(api.MaxDisk), 9)), 0), put("b", "x"), api.Disk{}, api.ErrFull},
		"of no such name": {ab, sync("c"), api.Disk{}, api.ErrUnknown},
	} {
		want := down(fused(x.want, 0))
		if x.why != api.ErrDown {
			want = x.d
		}
		if e, why := disk.Do(x.d, x.s); !alike(e, want) || why != x.why {
			t.Errorf("%s: %.200v, error %d; not %.200v", name, e, why, want)
		}
	}
}

func TestFuseBurns(t *testing.T) { // 10.1: as many changes as it says, and no more
	for n := range 6 {
		d, done := fused(of(), n), 0
		for range 10 {
			e, why := disk.Do(d, put("a", "x"))
			if why == api.OK {
				done++
			}
			d, _ = disk.Do(e, sync("nothing of this name"))
		}
		if done != n || !d.Down || d.Fuse != 0 {
			t.Errorf("Fuse %d: %d changes, %v", n, done, d)
		}
	}
}

func TestRead(t *testing.T) { // 10.1
	d := of(file("a", "xy", 0), file("b", "", 0), file("bb", "\xff\x00", 1), file("c", big(5000), 9))
	for name, want := range map[string]string{"a": "xy", "b": "", "bb": "\xff\x00", "c": big(5000)} {
		for _, fuse := range []int{-1, 0, 3} { // to read takes no power
			if s, why := disk.Read(fused(d, fuse), name); s != want || why != api.OK {
				t.Errorf("Read(%q) is %.80q, error %d", name, s, why)
			}
		}
	}
	for _, name := range []string{"", "A", "aa", "bc", "d", "\x00", "\xff"} {
		if s, why := disk.Read(d, name); s != "" || why != api.ErrUnknown {
			t.Errorf("Read(%q) is %q, error %d", name, s, why)
		}
	}
	if s, why := disk.Read(api.Disk{}, "a"); s != "" || why != api.ErrUnknown {
		t.Errorf("Read of nothing is %q, error %d", s, why)
	}
}

func TestCrash(t *testing.T) { // 10.1
	d := of(file("a", "abcdef", 2), file("b", "xyz", 3), file("c", "pq", 0), file("e", "", 0))
	after := func(a, b, c string) api.Disk {
		return of(file("a", a, len(a)), file("b", b, len(b)), file("c", c, len(c)), file("e", "", 0))
	}
	for keep, want := range map[int]api.Disk{
		math.MinInt: after("ab", "xyz", ""), -1: after("ab", "xyz", ""), 0: after("ab", "xyz", ""), 1: after("abc", "xyz", "p"), 2: after("abcd", "xyz", "pq"), 3: after("abcde", "xyz", "pq"),
		4: after("abcdef", "xyz", "pq"), 5: after("abcdef", "xyz", "pq"), math.MaxInt: after("abcdef", "xyz", "pq"), math.MaxInt - 1: after("abcdef", "xyz", "pq"),
	} {
		for _, fuse := range []int{-1, -9, 0, 5} {
			for _, x := range []api.Disk{fused(d, fuse), down(fused(d, fuse))} {
				if e, why := disk.Crash(x, keep); !alike(e, want) || why != api.OK {
					t.Errorf("Crash keeping %d is %v, error %d; not %v", keep, e, why, want)
				}
			}
		}
		if e, why := disk.Crash(down(api.Disk{}), keep); !alike(e, of()) || why != api.OK {
			t.Errorf("Crash of nothing is %v, error %d", e, why)
		}
	}
	for name, d := range right() {
		e, why := disk.Crash(d, 1)
		if why != api.OK || disk.Check(e) != api.OK || len(e.Files) != len(d.Files) || e.Down || e.Fuse != -1 {
			t.Errorf("%s: Crash is %.80v, error %d", name, e, why)
		}
	}
}

func TestExample(t *testing.T) { // 10.1: the chapter's
	d := of()
	for _, s := range []api.DiskStep{put("a", "xy"), sync("a"), move("a", "b"), put("a", "z")} {
		d, _ = disk.Do(d, s)
	}
	if e, why := disk.Crash(d, 0); !alike(e, of(file("a", "", 0), file("b", "xy", 2))) || why != api.OK {
		t.Errorf("%v, error %d", e, why)
	}
}
