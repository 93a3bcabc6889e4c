package wire_test

import (
	"math"
	"reflect"
	"slices"
	"strings"
	"testing"

	"potsherd/api"
	"potsherd/value"
	"potsherd/wire"
)

// allKinds are those of messages.
func allKinds() (l []api.MsgKind) {
	for k := api.MsgNone + 1; k < api.MsgCount; k++ {
		l = append(l, k)
	}
	return l
}

// hold says whether m is right, to every call.
func hold(t *testing.T, name string, m api.Msg, right bool) {
	t.Helper()
	want := api.ErrWire
	if right {
		want = api.OK
	}
	if why := wire.Check(m); why != want {
		t.Errorf("%s: Check: error %d", name, why)
	}
	s, why := wire.Write(m)
	if why != want || !right && s != "" {
		t.Errorf("%s: Write is %.80x, error %d", name, s, why)
	}
	// Its bytes are there, right or not; without the fields that its kind has not they may be another one's.
	all := encode(m)
	again, why := wire.Read(all)
	if right && (s != all || why != api.OK || !reflect.DeepEqual(tidy(again), tidy(m))) {
		t.Errorf("%s: Read is %v, error %d", name, again, why)
	}
	if why != api.OK && !reflect.DeepEqual(again, api.Msg{}) {
		t.Errorf("%s: Read tells %v beside an error", name, again)
	}
}

func TestKinds(t *testing.T) { // 9.1
	for k := range 256 {
		right := k > 0 && k < 10
		hold(t, "a kind", api.Msg{Kind: api.MsgKind(k)}, right)
		if s := encode(api.Msg{Kind: api.MsgKind(k)}) + strings.Repeat("\x00", 40); !right {
			for n := range s {
				if _, why := wire.Read(s[:n]); why != api.ErrWire {
					t.Errorf("Read(%x): error %d", s[:n], why)
				}
			}
		}
	}
}

// leaf is something of a message that is not zero, and the kinds that have it.
type leaf struct {
	set  func(m *api.Msg)
	have []api.MsgKind
}

func leaves() map[string]leaf {
	const start, started, batch, ack, clean, install, installed = api.MsgStart, api.MsgStarted, api.MsgBatch, api.MsgAck, api.MsgClean, api.MsgInstall, api.MsgInstalled
	of := func(k ...api.MsgKind) []api.MsgKind { return k }
	l := map[string]leaf{
		"Boot":         {func(m *api.Msg) { m.Boot = 1 }, of(api.MsgBeat)},
		"Query.Boot":   {func(m *api.Msg) { m.Stream.Query.Boot = 1 }, of(start, started, batch, ack, clean)},
		"Query.N":      {func(m *api.Msg) { m.Stream.Query.N = 1 }, of(start, started, batch, ack, clean)},
		"Attempt":      {func(m *api.Msg) { m.Stream.Attempt = 1 }, of(start, started, batch, ack)},
		"From":         {func(m *api.Msg) { m.Stream.From = 1 }, of(started, batch, ack)},
		"To":           {func(m *api.Msg) { m.Stream.To = -1 }, of(batch, ack)},
		"Catalog":      {func(m *api.Msg) { m.Catalog = make([]api.Table, 1) }, of(start)},
		"Nodes":        {func(m *api.Msg) { m.Nodes = make([]int, 1) }, of(start)},
		"Seq":          {func(m *api.Msg) { m.Seq = 1 }, of(batch, ack)},
		"Last":         {func(m *api.Msg) { m.Last = true }, of(batch)},
		"Rows":         {func(m *api.Msg) { m.Rows = make([]api.Row, 1) }, of(batch)},
		"File.Table":   {func(m *api.Msg) { m.File.Table = "\x00" }, of(install, installed)},
		"Version.Boot": {func(m *api.Msg) { m.File.Version.Boot = 1 }, of(install, installed)},
		"Version.Load": {func(m *api.Msg) { m.File.Version.Load = 1 }, of(install, installed)},
		"File.Shard":   {func(m *api.Msg) { m.File.Shard = math.MinInt }, of(install, installed)},
		"File.Cols":    {func(m *api.Msg) { m.File.Cols = make([]api.Col, 1) }, of(install, installed)},
		"File.Rows":    {func(m *api.Msg) { m.File.Rows = make([]api.Row, 1) }, of(install)},
		"Claims":       {func(m *api.Msg) { m.Claims = make([]api.Claim, 1) }, of(api.MsgClaims)},
	}
	for name, set := range map[string]func(b *api.Bound){
		"Table":   func(b *api.Bound) { b.Table = "a" },
		"Join":    func(b *api.Bound) { b.Join = "a" },
		"Width":   func(b *api.Bound) { b.Width = 1 },
		"Left":    func(b *api.Bound) { b.Left = 1 },
		"Right":   func(b *api.Bound) { b.Right = -1 },
		"Where":   func(b *api.Bound) { b.Where = make([]api.Step, 1) },
		"Group":   func(b *api.Bound) { b.Group = make([]int, 1) },
		"Items":   func(b *api.Bound) { b.Items = make([]api.Item, 1) },
		"Grouped": func(b *api.Bound) { b.Grouped = true },
		"Names":   func(b *api.Bound) { b.Names = make([]string, 1) },
		"Kinds":   func(b *api.Bound) { b.Kinds = make([]api.Kind, 1) },
	} {
		l["Bound."+name] = leaf{func(m *api.Msg) { set(&m.Bound) }, of(start)}
	}
	for name, set := range map[string]func(f *api.Frag){
		"Id":                 func(f *api.Frag) { f.Id = 1 },
		"Node":               func(f *api.Frag) { f.Node = 1 },
		"Left.Kind":          func(f *api.Frag) { f.Left.Kind = 1 },
		"Left.Table":         func(f *api.Frag) { f.Left.Table = "a" },
		"Left.Version.Boot":  func(f *api.Frag) { f.Left.Version.Boot = 1 },
		"Left.Version.Load":  func(f *api.Frag) { f.Left.Version.Load = 1 },
		"Left.Shard":         func(f *api.Frag) { f.Left.Shard = 1 },
		"Left.Frags":         func(f *api.Frag) { f.Left.Frags = make([]int, 1) },
		"Right.Kind":         func(f *api.Frag) { f.Right.Kind = 255 },
		"Right.Table":        func(f *api.Frag) { f.Right.Table = "a" },
		"Right.Version.Boot": func(f *api.Frag) { f.Right.Version.Boot = math.MaxUint64 },
		"Right.Version.Load": func(f *api.Frag) { f.Right.Version.Load = 1 },
		"Right.Shard":        func(f *api.Frag) { f.Right.Shard = 1 },
		"Right.Frags":        func(f *api.Frag) { f.Right.Frags = make([]int, 1) },
		"Raw":                func(f *api.Frag) { f.Raw = true },
		"By":                 func(f *api.Frag) { f.By = -1 },
		"To":                 func(f *api.Frag) { f.To = make([]int, 1) },
	} {
		l["Frag."+name] = leaf{func(m *api.Msg) { set(&m.Frag) }, of(start)}
	}
	return l
}

func TestFieldsThatAKindHasNot(t *testing.T) { // 9.1
	for name, x := range leaves() {
		for _, k := range append(allKinds(), api.MsgNone, api.MsgCount, 255) {
			m := api.Msg{Kind: k}
			x.set(&m)
			hold(t, name, m, slices.Contains(x.have, k))
		}
		// Beside all that it may have, too.
		for example, y := range examples() {
			m := y.m
			x.set(&m)
			hold(t, name+" of "+example, m, slices.Contains(x.have, m.Kind))
		}
	}
}

// lists are all that a message may have, but for its rows.
func lists() map[string]func(m *api.Msg, n int) {
	const start, install, installed, claims = api.MsgStart, api.MsgInstall, api.MsgInstalled, api.MsgClaims
	return map[string]func(m *api.Msg, n int){
		"Where":          func(m *api.Msg, n int) { m.Kind, m.Bound.Where = start, make([]api.Step, n) },
		"Group":          func(m *api.Msg, n int) { m.Kind, m.Bound.Group = start, make([]int, n) },
		"Items":          func(m *api.Msg, n int) { m.Kind, m.Bound.Items = start, make([]api.Item, n) },
		"Expr":           func(m *api.Msg, n int) { m.Kind, m.Bound.Items = start, []api.Item{{}, {Expr: make([]api.Step, n)}} },
		"Names":          func(m *api.Msg, n int) { m.Kind, m.Bound.Names = start, make([]string, n) },
		"Kinds":          func(m *api.Msg, n int) { m.Kind, m.Bound.Kinds = start, make([]api.Kind, n) },
		"Catalog":        func(m *api.Msg, n int) { m.Kind, m.Catalog = start, make([]api.Table, n) },
		"Catalog's Cols": func(m *api.Msg, n int) { m.Kind, m.Catalog = start, []api.Table{{}, {Cols: make([]api.Col, n)}} },
		"Left.Frags":     func(m *api.Msg, n int) { m.Kind, m.Frag.Left.Frags = start, make([]int, n) },
		"Right.Frags":    func(m *api.Msg, n int) { m.Kind, m.Frag.Right.Frags = start, make([]int, n) },
		"To":             func(m *api.Msg, n int) { m.Kind, m.Frag.To = start, make([]int, n) },
		"Nodes":          func(m *api.Msg, n int) { m.Kind, m.Nodes = start, make([]int, n) },
		"a row":          func(m *api.Msg, n int) { *m = batch(nil, make(api.Row, n)) },
		"a file's row":   func(m *api.Msg, n int) { m.Kind, m.File.Rows = install, []api.Row{nil, make(api.Row, n)} },
		"a file's Cols":  func(m *api.Msg, n int) { m.Kind, m.File.Cols = install, make([]api.Col, n) },
		"a kept one's":   func(m *api.Msg, n int) { m.Kind, m.File.Cols = installed, make([]api.Col, n) },
		"Claims":         func(m *api.Msg, n int) { m.Kind, m.Claims = claims, make([]api.Claim, n) },
		"a claim's Cols": func(m *api.Msg, n int) { m.Kind, m.Claims = claims, []api.Claim{{}, {Cols: make([]api.Col, n)}} },
		"Owners":         func(m *api.Msg, n int) { m.Kind, m.Claims = claims, []api.Claim{{}, {Owners: make([][]int, n)}} },
		"a shard's": func(m *api.Msg, n int) {
			m.Kind, m.Claims = claims, []api.Claim{{Owners: [][]int{nil, make([]int, n)}}}
		},
	}
}

// refuse says that m's bytes, which no message may have, are not read.
func refuse(t *testing.T, name string, m api.Msg) {
	t.Helper()
	if again, why := wire.Read(encode(m)); why != api.ErrWire || !reflect.DeepEqual(again, api.Msg{}) {
		t.Errorf("%s: Read is %.80v, error %d", name, again, why)
	}
}

func TestLists(t *testing.T) { // 9.1
	if wire.MaxWire != 64 {
		t.Error("MaxWire is", wire.MaxWire)
	}
	for name, set := range lists() {
		for _, n := range []int{0, 1, 2, 63, 64} {
			var m api.Msg
			set(&m, n)
			hold(t, name, m, true)
		}
		for _, n := range []int{65, 66, 128, 512, 1 << 14, 1 << 17} {
			var m api.Msg
			set(&m, n)
			hold(t, name, m, false)
			refuse(t, name, m)
		}
	}
}

func TestRows(t *testing.T) { // 9.1
	for _, n := range []int{0, 1, 64, 65, 511, 512, 513, 514, 1024, 1 << 14, 1 << 20} {
		rows := make([]api.Row, n)
		for i := range rows {
			rows[i] = api.Row{whole(int64(i))}
		}
		for _, m := range []api.Msg{batch(rows...), {Kind: api.MsgInstall, File: api.File{Rows: rows}}} {
			hold(t, "rows", m, n <= 512)
			if n > 512 {
				refuse(t, "rows", m)
			}
		}
		hold(t, "rows that are told to be kept", api.Msg{Kind: api.MsgInstalled, File: api.File{Rows: rows}}, n == 0)
		hold(t, "a catalog's rows", api.Msg{Kind: api.MsgStart, Catalog: []api.Table{{Name: "t"}, {Rows: rows}}}, n == 0)
	}
}

// texts are all that a message may have, but for those in its rows.
func texts() map[string]func(m *api.Msg, s string) {
	const start, install, installed, claims = api.MsgStart, api.MsgInstall, api.MsgInstalled, api.MsgClaims
	cols := func(s string) []api.Col { return []api.Col{{}, {Name: s}} }
	return map[string]func(m *api.Msg, s string){
		"Table":             func(m *api.Msg, s string) { m.Kind, m.Bound.Table = start, s },
		"Join":              func(m *api.Msg, s string) { m.Kind, m.Bound.Join = start, s },
		"Where":             func(m *api.Msg, s string) { m.Kind, m.Bound.Where = start, []api.Step{{}, {Text: s}} },
		"Expr":              func(m *api.Msg, s string) { m.Kind, m.Bound.Items = start, []api.Item{{Expr: []api.Step{{Text: s}}}} },
		"Names":             func(m *api.Msg, s string) { m.Kind, m.Bound.Names = start, []string{"", s} },
		"Catalog":           func(m *api.Msg, s string) { m.Kind, m.Catalog = start, []api.Table{{Name: s}} },
		"Catalog's column":  func(m *api.Msg, s string) { m.Kind, m.Catalog = start, []api.Table{{Cols: cols(s)}} },
		"Left.Table":        func(m *api.Msg, s string) { m.Kind, m.Frag.Left.Table = start, s },
		"Right.Table":       func(m *api.Msg, s string) { m.Kind, m.Frag.Right.Table = start, s },
		"a file's Table":    func(m *api.Msg, s string) { m.Kind, m.File.Table = install, s },
		"a file's column":   func(m *api.Msg, s string) { m.Kind, m.File.Cols = install, cols(s) },
		"a kept one's":      func(m *api.Msg, s string) { m.Kind, m.File.Table = installed, s },
		"a kept one's cols": func(m *api.Msg, s string) { m.Kind, m.File.Cols = installed, cols(s) },
		"a claim's Table":   func(m *api.Msg, s string) { m.Kind, m.Claims = claims, []api.Claim{{}, {Table: s}} },
		"a claim's column":  func(m *api.Msg, s string) { m.Kind, m.Claims = claims, []api.Claim{{Cols: cols(s)}} },
	}
}

func TestLongTexts(t *testing.T) { // 9.1
	for name, set := range texts() {
		for _, s := range []string{"", "a", "\xff\x00\xc3", strings.Repeat("a", 257), strings.Repeat("é", 1024), strings.Repeat("\xff", 2047), strings.Repeat("\x80", 2048)} {
			var m api.Msg
			set(&m, s)
			hold(t, name, m, true)
		}
		for _, n := range []int{2049, 2050, 4096, 1 << 14, 1 << 16, 1 << 20} {
			var m api.Msg
			set(&m, strings.Repeat("a", n))
			hold(t, name, m, false)
			refuse(t, name, m)
		}
	}
}

func TestValues(t *testing.T) { // 9.1
	for _, v := range []api.Value{
		{}, boolean(false), boolean(true), whole(0), whole(math.MinInt64), whole(math.MaxInt64), text(""), text("\x00"), text("é"), text(strings.Repeat("a", 256)), text(strings.Repeat("é", 128)),
		text(strings.Repeat("a", 257)), text(strings.Repeat("é", 129)), text(strings.Repeat("a", 2048)), text(strings.Repeat("a", 2049)), text("\xff"), text("a\xc3"), text("\xed\xa0\x80"),
		{N: 1}, {B: true}, {S: "a"}, {Kind: api.KindBool, N: 1}, {Kind: api.KindBool, S: "a"}, {Kind: api.KindInt, B: true}, {Kind: api.KindInt, S: "a"}, {Kind: api.KindText, B: true}, {Kind: api.KindText, N: 1},
		{Kind: api.KindCount}, {Kind: 5}, {Kind: 255}, {Kind: 255, S: "a", B: true, N: 7},
	} {
		right := value.Check(v) == api.OK
		for _, m := range []api.Msg{
			batch(api.Row{v}), batch(nil, api.Row{whole(1), v, {}}),
			{Kind: api.MsgInstall, File: api.File{Rows: []api.Row{{v}}}}, {Kind: api.MsgInstall, File: api.File{Rows: []api.Row{{whole(1)}, {{}, v}, nil}}},
		} {
			hold(t, "a value", m, right)
		}
		if v.Kind == api.KindText && !right && !v.B && v.N == 0 {
			refuse(t, "a text", batch(api.Row{v}))
		}
	}
}

// filled is a message of so many bytes.
func filled(t *testing.T, bytes int) api.Msg {
	m := api.Msg{Kind: api.MsgStart, Bound: api.Bound{Names: make([]string, 64)}}
	for i := range m.Bound.Names {
		n, left := 2048, bytes-len(encode(m))
		if left < 2200 {
			n = min(left, 100)
		}
		m.Bound.Names[i] = strings.Repeat("a", n)
	}
	if n := len(encode(m)); n != bytes {
		t.Fatalf("%d bytes; not %d", n, bytes)
	}
	return m
}

// ofRows is a message of rows of so many bytes.
func ofRows(t *testing.T, bytes int) api.Msg {
	rows := make([]api.Row, 512)
	m := batch(rows...)
	for i := range rows {
		r, left := api.Row{text(strings.Repeat("a", 256))}, bytes-len(encode(m))
		if left < 300 {
			r = make(api.Row, min(left, 60))
		}
		rows[i] = r
	}
	if n := len(encode(m)); n != bytes {
		t.Fatalf("%d bytes; not %d", n, bytes)
	}
	return m
}

func TestBytes(t *testing.T) { // 9.1
	for _, n := range []int{60000, api.MaxBytes - 1, api.MaxBytes, api.MaxBytes + 1, api.MaxBytes + 2, api.MaxBytes + 100, 70000} {
		for _, m := range []api.Msg{filled(t, n), ofRows(t, n)} {
			hold(t, "a long message", m, n <= api.MaxBytes)
			if n > api.MaxBytes {
				refuse(t, "a long message", m)
			}
		}
	}
	// All lists and texts as long as they may be.
	for name, m := range map[string]api.Msg{
		"rows":   batch(slices.Repeat([]api.Row{slices.Repeat(api.Row{text(strings.Repeat("é", 128))}, 64)}, 512)...),
		"items":  {Kind: api.MsgStart, Bound: api.Bound{Items: slices.Repeat([]api.Item{{Expr: slices.Repeat([]api.Step{{Text: strings.Repeat("a", 2048)}}, 64)}}, 64)}},
		"owners": {Kind: api.MsgClaims, Claims: slices.Repeat([]api.Claim{{Owners: slices.Repeat([][]int{slices.Repeat([]int{math.MinInt}, 64)}, 64)}}, 64)},
	} {
		hold(t, name, m, false)
		refuse(t, name, m)
	}
}
