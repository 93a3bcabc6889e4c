package wire_test

import (
	"math"
	"reflect"
	"strings"
	"testing"

	"potsherd/api"
	"potsherd/wire"
)

func whole(n int64) api.Value    { return api.Value{Kind: api.KindInt, N: n} }
func text(s string) api.Value    { return api.Value{Kind: api.KindText, S: s} }
func boolean(b bool) api.Value   { return api.Value{Kind: api.KindBool, B: b} }
func beat(boot uint64) api.Msg   { return api.Msg{Kind: api.MsgBeat, Boot: boot} }
func batch(r ...api.Row) api.Msg { return api.Msg{Kind: api.MsgBatch, Rows: r} }

func column(name string, k api.Kind) api.Col { return api.Col{Name: name, Kind: k} }

// start is a message with something in each of its parts.
func start() api.Msg {
	return api.Msg{
		Kind:   api.MsgStart,
		Stream: api.Stream{Query: api.Qid{Boot: 1, N: 300}, Attempt: 2},
		Bound: api.Bound{
			Table: "t", Join: "u", Width: 2, Left: 1, Right: 3,
			Where:   []api.Step{{Kind: api.StepCol, N: 1}, {Kind: api.StepInt, N: -3}, {Kind: api.StepText, Text: "é"}, {Kind: api.StepLess}},
			Group:   []int{0, 1},
			Items:   []api.Item{{Expr: []api.Step{{Kind: api.StepCol, N: 4}}}, {Agg: api.AggCount}},
			Grouped: true,
			Names:   []string{"a", ""},
			Kinds:   []api.Kind{api.KindInt, api.KindText},
		},
		Catalog: []api.Table{{Name: "t", Cols: []api.Col{column("k", api.KindInt), column("s", api.KindText)}}, {Name: "u"}},
		Frag: api.Frag{
			Id: 1, Node: 2,
			Left:  api.Src{Kind: api.SrcShard, Table: "t", Version: api.Version{Boot: 5, Load: 6}, Shard: 3},
			Right: api.Src{Kind: api.SrcFrags, Frags: []int{0, 5}},
			Raw:   true, By: -1, To: []int{2, 3},
		},
		Nodes: []int{1, 2, -1},
	}
}

const startText = "\x02" + "\x01\xac\x02" + "\x04" +
	"\x01t" + "\x01u" + "\x04" + "\x02" + "\x06" + // Table, Join, Width, Left, Right
	"\x04" + "\x06\x00\x02" + "\x04\x00\x05" + "\x05\x02é\x00" + "\x10\x00\x00" + // Where
	"\x02\x00\x02" + // Group
	"\x02" + "\x00\x01\x06\x00\x08" + "\x01\x00" + // Items
	"\x01" + "\x02\x01a\x00" + "\x02\x02\x03" + // Grouped, Names, Kinds
	"\x02" + "\x01t\x02\x01k\x02\x01s\x03" + "\x01u\x00" + // Catalog
	"\x02\x04" + "\x01\x01t\x05\x06\x06\x00" + "\x02\x00\x00\x00\x00\x02\x00\x0a" + "\x01" + "\x01" + "\x02\x04\x06" + // Frag
	"\x03\x02\x04\x01" // Nodes

// file is a shard of two rows.
func file() api.File {
	return api.File{
		Table: "tab", Version: api.Version{Boot: 1 << 7, Load: 9}, Shard: 7, Cols: []api.Col{column("k", api.KindInt), column("b", api.KindBool)},
		Rows: []api.Row{{whole(64), boolean(false)}, {{}, boolean(true)}},
	}
}

const fileText = "\x03tab" + "\x80\x01\x09" + "\x0e" + "\x02\x01k\x02\x01b\x01"

// example is a message, and the text that the chapter gives it.
type example struct {
	m    api.Msg
	text string
}

func examples() map[string]example {
	stream := api.Stream{Query: api.Qid{Boot: 1, N: 300}, Attempt: 2, From: 3, To: -1}
	kept := file()
	kept.Rows = nil
	claims := []api.Claim{
		{Table: "t", Cols: []api.Col{column("k", api.KindInt)}, Version: api.Version{Boot: 1, Load: 2}, Owners: [][]int{{1, 2}, nil, {3}}},
		{Table: "u"},
	}
	return map[string]example{
		"the chapter's": {beat(300), "\x01\xac\x02"},
		"beat":          {beat(0), "\x01\x00"},
		"start":         {start(), startText},
		"bare start":    {api.Msg{Kind: api.MsgStart}, "\x02" + strings.Repeat("\x00", 33)},
		"started":       {api.Msg{Kind: api.MsgStarted, Stream: api.Stream{Query: api.Qid{Boot: 1, N: 2}, Attempt: 3, From: 4}}, "\x03\x01\x02\x06\x08"},
		"batch":         {api.Msg{Kind: api.MsgBatch, Stream: stream, Seq: 5, Last: true, Rows: []api.Row{{whole(-1), text("é"), {}, boolean(true)}, nil}}, "\x04\x01\xac\x02\x04\x06\x01\x05\x01\x02" + "\x04\x02\x01\x03\x02é\x00\x01\x01" + "\x00"},
		"bare batch":    {batch(), "\x04\x00\x00\x00\x00\x00\x00\x00\x00"},
		"ack":           {api.Msg{Kind: api.MsgAck, Stream: stream, Seq: 5}, "\x05\x01\xac\x02\x04\x06\x01\x05"},
		"clean":         {api.Msg{Kind: api.MsgClean, Stream: api.Stream{Query: api.Qid{Boot: 7, N: 8}}}, "\x06\x07\x08"},
		"install":       {api.Msg{Kind: api.MsgInstall, File: file()}, "\x07" + fileText + "\x02" + "\x02\x02\x80\x01\x01\x00" + "\x02\x00\x01\x01"},
		"installed":     {api.Msg{Kind: api.MsgInstalled, File: kept}, "\x08" + fileText},
		"claims":        {api.Msg{Kind: api.MsgClaims, Claims: claims}, "\x09\x02" + "\x01t\x01\x01k\x02\x01\x02\x03\x02\x02\x04\x00\x01\x06" + "\x01u\x00\x00\x00\x00"},
		"no claims":     {api.Msg{Kind: api.MsgClaims}, "\x09\x00"},
	}
}

func TestTexts(t *testing.T) { // 9.1, 9.3, P5
	for name, x := range examples() {
		if s, why := wire.Write(x.m); s != x.text || why != api.OK {
			t.Errorf("%s: Write is %x, error %d; not %x", name, s, why, x.text)
		}
		if why := wire.Check(x.m); why != api.OK {
			t.Errorf("%s: Check: error %d", name, why)
		}
		if m, why := wire.Read(x.text); !reflect.DeepEqual(m, x.m) || why != api.OK {
			t.Errorf("%s: Read is %v, error %d", name, m, why)
		}
	}
}

func TestCutShort(t *testing.T) { // 9.4, P2: and with a byte more
	for name, x := range examples() {
		for n := range len(x.text) {
			if m, why := wire.Read(x.text[:n]); !reflect.DeepEqual(m, api.Msg{}) || why != api.ErrWire {
				t.Errorf("%s, %d bytes of it: %v, error %d", name, n, m, why)
			}
		}
		for b := range 256 {
			if m, why := wire.Read(x.text + string([]byte{byte(b)})); !reflect.DeepEqual(m, api.Msg{}) || why != api.ErrWire {
				t.Errorf("%s, and %x: %v, error %d", name, b, m, why)
			}
		}
	}
}

func TestNumbers(t *testing.T) { // 9.1, 9.3
	ff, oo := strings.Repeat("\xff", 9), strings.Repeat("\x80", 9)
	for want, n := range map[string]uint64{
		"\x00": 0, "\x01": 1, "\x7f": 127, "\x80\x01": 128, "\x81\x01": 129, "\xff\x01": 255, "\x80\x02": 256, "\xac\x02": 300, "\xff\x7f": 1<<14 - 1, "\x80\x80\x01": 1 << 14,
		ff[:8] + "\x7f": 1<<63 - 1, oo + "\x01": 1 << 63, ff + "\x01": math.MaxUint64, "\xfe" + ff[:8] + "\x01": math.MaxUint64 - 1, oo[:8] + "\x01": 1 << 56,
	} {
		for where, m := range map[string]api.Msg{
			"\x01":                     beat(n),
			"\x06\x00":                 {Kind: api.MsgClean, Stream: api.Stream{Query: api.Qid{N: n}}},
			"\x05\x00\x00\x00\x00\x00": {Kind: api.MsgAck, Seq: n},
			"\x08\x00\x00":             {Kind: api.MsgInstalled, File: api.File{Version: api.Version{Load: n}}},
		} {
			behind := ""
			if m.Kind == api.MsgInstalled {
				behind = "\x00\x00"
			}
			s, why := wire.Write(m)
			if s != where+want+behind || why != api.OK {
				t.Errorf("Write of %d: %x, error %d", n, s, why)
			}
			if again, why := wire.Read(s); !reflect.DeepEqual(again, m) || why != api.OK {
				t.Errorf("Read of %x: %v, error %d", s, again, why)
			}
		}
	}
}

func TestInts(t *testing.T) { // 9.1, 9.3
	ff := strings.Repeat("\xff", 9)
	for want, n := range map[string]int64{
		"\x00": 0, "\x01": -1, "\x02": 1, "\x03": -2, "\x7e": 63, "\x7f": -64, "\x80\x01": 64, "\x81\x01": -65, "\xd7\x04": -300, "\xd8\x04": 300,
		"\xfe" + ff[:8] + "\x01": math.MaxInt64, ff + "\x01": math.MinInt64, "\xfd" + ff[:8] + "\x01": math.MinInt64 + 1, "\xfc" + ff[:8] + "\x01": math.MaxInt64 - 1,
	} {
		for where, m := range map[string]api.Msg{
			"\x04\x00\x00\x00\x00\x00\x00\x00\x01\x01\x02": batch(api.Row{whole(n)}),
			"\x03\x00\x00\x00":                           {Kind: api.MsgStarted, Stream: api.Stream{From: int(n)}},
			"\x02" + strings.Repeat("\x00", 32) + "\x01": {Kind: api.MsgStart, Nodes: []int{int(n)}},
			"\x09\x01\x00\x00\x00\x00\x01\x01":           {Kind: api.MsgClaims, Claims: []api.Claim{{Owners: [][]int{{int(n)}}}}},
		} {
			s, why := wire.Write(m)
			if s != where+want || why != api.OK {
				t.Errorf("Write of %d: %x, error %d", n, s, why)
			}
			if again, why := wire.Read(s); !reflect.DeepEqual(again, m) || why != api.OK {
				t.Errorf("Read of %x: %v, error %d", s, again, why)
			}
		}
	}
	// A step's N is an int, whatever its kind is.
	for _, k := range []api.StepKind{api.StepInt, api.StepCol, api.StepNone, api.StepAnd, 255} {
		m := api.Msg{Kind: api.MsgStart, Bound: api.Bound{Where: []api.Step{{Kind: k, N: math.MinInt64}}}}
		if s, why := wire.Write(m); !strings.Contains(s, "\x01"+string([]byte{byte(k)})+"\x00"+ff+"\x01") || why != api.OK {
			t.Errorf("Write of a step %d: %x, error %d", k, s, why)
		}
	}
}

// wrongNumbers are bytes that are no number's text.
func wrongNumbers() []string {
	ff, oo := strings.Repeat("\xff", 9), strings.Repeat("\x80", 9)
	return []string{
		"", "\x80", "\xff", "\x80\x00", "\x81\x00", "\xff\x00", "\x80\x80\x00", "\xff\xff\x00", oo[:8] + "\x00", ff[:8] + "\x00", oo + "\x00", ff + "\x00",
		ff + "\x02", oo + "\x02", oo + "\x03", ff + "\x7f", oo + "\x40", ff, oo, ff + "\x80", oo + "\x81", ff + "\x81\x00", oo + "\x80\x01", ff + "\xff\x01", oo + oo + "\x01", ff + ff + "\x01",
	}
}

func TestWrongNumbers(t *testing.T) { // 9.1, 9.3, 9.4
	for _, s := range wrongNumbers() {
		for name, x := range map[string][2]string{
			"a number":        {"\x01", ""},
			"an int":          {"\x03\x00\x00\x00", ""},
			"a value's int":   {"\x04\x00\x00\x00\x00\x00\x00\x00\x01\x01\x02", ""},
			"a list's":        {"\x09", ""},
			"a text's":        {"\x08", "\x00\x00\x00\x00"},
			"a value's text":  {"\x04\x00\x00\x00\x00\x00\x00\x00\x01\x01\x03", ""},
			"a number inside": {"\x08\x00", "\x00\x00\x00"},
		} {
			all := x[0] + s + x[1]
			if m, why := wire.Read(all); !reflect.DeepEqual(m, api.Msg{}) || why != api.ErrWire {
				t.Errorf("%s: Read(%x) = %v, error %d", name, all, m, why)
			}
		}
	}
}

func TestWrongTexts(t *testing.T) { // 9.1, 9.4
	row := "\x04\x00\x00\x00\x00\x00\x00\x00\x01\x01" // ahead of a value
	for name, s := range map[string]string{
		"nothing":                       "",
		"no kind":                       "\x00",
		"no kind, and something":        "\x00\x00",
		"a kind too many":               "\x0a",
		"a kind too many, and zeros":    "\x0a\x00\x00\x00",
		"the last kind":                 "\xff\x00",
		"a beat's kind alone":           "\x01",
		"a bool of 2":                   "\x04\x00\x00\x00\x00\x00\x00\x02\x00",
		"a bool of 255":                 "\x04\x00\x00\x00\x00\x00\x00\xff\x00",
		"a value's bool of 2":           row + "\x01\x02",
		"a value's bool of 129":         row + "\x01\x81",
		"a value of no kind":            row + "\x04",
		"a value of no kind, too":       row + "\xff\x00",
		"a value's text that is no one": row + "\x03\x01\xff",
		"half a rune":                   row + "\x03\x01\xc3",
		"a surrogate":                   row + "\x03\x03\xed\xa0\x80",
		"a text that is cut":            row + "\x03\x03ab",
		"a text's length":               row + "\x03\x03",
		"a text of 2^64 - 1 bytes":      "\x08" + strings.Repeat("\xff", 9) + "\x01",
		"a text of 2^63 bytes":          "\x08" + strings.Repeat("\x80", 9) + "\x01",
		"a list of 2^64 - 1 parts":      "\x09" + strings.Repeat("\xff", 9) + "\x01",
		"a list of 2^63 parts":          "\x09" + strings.Repeat("\x80", 9) + "\x01",
		"rows of 2^64 - 1":              "\x04\x00\x00\x00\x00\x00\x00\x00" + strings.Repeat("\xff", 9) + "\x01",
		"a text as it was asked":        "(from t)",
	} {
		if m, why := wire.Read(s); !reflect.DeepEqual(m, api.Msg{}) || why != api.ErrWire {
			t.Errorf("%s: Read(%x) = %v, error %d", name, s, m, why)
		}
	}
	for name, s := range map[string]string{ // these are, though what they tell may be odd
		"a value's null":      row + "\x00",
		"a value's bool":      row + "\x01\x01",
		"a value's text":      row + "\x03\x02é",
		"a column's odd kind": "\x08\x00\x00\x00\x00\x01\x00\xff",
		"a name of any bytes": "\x08\x02\xff\x00\x00\x00\x00\x00",
		"a row of nothing":    "\x04\x00\x00\x00\x00\x00\x00\x00\x01\x00",
	} {
		m, why := wire.Read(s)
		again, _ := wire.Write(m)
		if again != s || why != api.OK {
			t.Errorf("%s: Read(%x) = %v, error %d", name, s, m, why)
		}
	}
}
