package wire_test

import (
	"encoding/binary"
	"math"
	"math/rand/v2"
	"reflect"
	"slices"
	"strings"
	"testing"

	"potsherd/api"
	"potsherd/value"
	"potsherd/wire"
)

// The chapter's words once more, by what package reflect tells of the types: a message's text is that of the fields that paths names, and of their parts in their order.

func paths(k api.MsgKind) []string {
	switch k {
	case api.MsgBeat:
		return []string{"Boot"}
	case api.MsgStart:
		return []string{"Stream.Query", "Stream.Attempt", "Bound", "Catalog", "Frag", "Nodes"}
	case api.MsgStarted:
		return []string{"Stream.Query", "Stream.Attempt", "Stream.From"}
	case api.MsgBatch:
		return []string{"Stream", "Seq", "Last", "Rows"}
	case api.MsgAck:
		return []string{"Stream", "Seq"}
	case api.MsgClean:
		return []string{"Stream.Query"}
	case api.MsgInstall:
		return []string{"File"}
	case api.MsgInstalled:
		return []string{"File.Table", "File.Version", "File.Shard", "File.Cols"}
	case api.MsgClaims:
		return []string{"Claims"}
	}
	return nil
}

// at is the field of m that a path leads to.
func at(m *api.Msg, path string) reflect.Value {
	v := reflect.ValueOf(m).Elem()
	for _, name := range strings.Split(path, ".") {
		v = v.FieldByName(name)
	}
	return v
}

// inner are the parts of a struct that has a text.
func inner(v reflect.Value) (l []reflect.Value) {
	if x, ok := v.Addr().Interface().(*api.Value); ok {
		l = append(l, v.Field(0))
		if x.Kind > 0 && x.Kind < api.KindCount {
			l = append(l, v.Field(int(x.Kind)))
		}
		return l
	}
	for i := range v.NumField() {
		if v.Type() != reflect.TypeFor[api.Table]() || v.Type().Field(i).Name != "Rows" {
			l = append(l, v.Field(i))
		}
	}
	return l
}

func put(out []byte, v reflect.Value) []byte {
	switch v.Kind() {
	case reflect.Bool:
		if v.Bool() {
			return append(out, 1)
		}
		return append(out, 0)
	case reflect.Uint8:
		return append(out, byte(v.Uint()))
	case reflect.Uint64:
		return binary.AppendUvarint(out, v.Uint())
	case reflect.Int, reflect.Int64:
		return binary.AppendVarint(out, v.Int())
	case reflect.String:
		return append(binary.AppendUvarint(out, uint64(v.Len())), v.String()...)
	case reflect.Slice:
		out = binary.AppendUvarint(out, uint64(v.Len()))
		for i := range v.Len() {
			out = put(out, v.Index(i))
		}
		return out
	}
	for _, p := range inner(v) {
		out = put(out, p)
	}
	return out
}

// encode is m's text, if it has one; else what would be its text.
func encode(m api.Msg) string {
	out := []byte{byte(m.Kind)}
	for _, p := range paths(m.Kind) {
		out = put(out, at(&m, p))
	}
	return string(out)
}

// take reads v, not too strictly, and is what is left; nil, if there is too little.
func take(in []byte, v reflect.Value) []byte {
	if len(in) == 0 {
		return nil
	}
	switch v.Kind() {
	case reflect.Bool:
		v.SetBool(in[0] != 0)
		return in[1:]
	case reflect.Uint8:
		v.SetUint(uint64(in[0]))
		return in[1:]
	case reflect.Int, reflect.Int64:
		x, n := binary.Varint(in)
		if n <= 0 {
			return nil
		}
		v.SetInt(x)
		return in[n:]
	case reflect.Struct:
		return takeStruct(in, v)
	}
	x, n := binary.Uvarint(in)
	if n <= 0 {
		return nil
	}
	in = in[n:]
	if v.Kind() == reflect.Uint64 {
		v.SetUint(x)
		return in
	}
	if x > uint64(len(in)) {
		return nil
	}
	if v.Kind() == reflect.String {
		v.SetString(string(in[:x]))
		return in[x:]
	}
	v.Set(reflect.MakeSlice(v.Type(), int(x), int(x)))
	for i := range int(x) {
		if in = take(in, v.Index(i)); in == nil {
			return nil
		}
	}
	return in
}

func takeStruct(in []byte, v reflect.Value) []byte {
	if v.Type() == reflect.TypeFor[api.Value]() { // what it has hangs on its first part
		if in = take(in, v.Field(0)); in == nil {
			return nil
		}
		if l := inner(v); len(l) > 1 {
			return take(in, l[1])
		}
		return in
	}
	for _, p := range inner(v) {
		if in = take(in, p); in == nil {
			return nil
		}
	}
	return in
}

// decode is the right message whose text s is, and whether there is one.
func decode(s string) (m api.Msg, ok bool) {
	if s == "" {
		return m, false
	}
	m.Kind = api.MsgKind(s[0])
	in := append([]byte(s[1:]), 0) // so that nothing is left only if nothing was there
	for _, p := range paths(m.Kind) {
		if in = take(in, at(&m, p)); in == nil {
			return api.Msg{}, false
		}
	}
	if len(in) != 1 || encode(m) != s || !isRight(m) {
		return api.Msg{}, false
	}
	return m, true
}

// fits tells whether lists and texts are short enough, and the values of rows right.
func fits(v reflect.Value) bool {
	switch v.Kind() {
	case reflect.String:
		return v.Len() <= 2048
	case reflect.Slice:
		if v.Len() > 512 || v.Len() > 64 && v.Type() != reflect.TypeFor[[]api.Row]() {
			return false
		}
		for i := range v.Len() {
			if !fits(v.Index(i)) {
				return false
			}
		}
	case reflect.Struct:
		if x, ok := v.Interface().(api.Value); ok {
			return value.Check(x) == api.OK
		}
		for i := range v.NumField() {
			if !fits(v.Field(i)) {
				return false
			}
		}
	}
	return true
}

func isRight(m api.Msg) bool {
	if paths(m.Kind) == nil || !fits(reflect.ValueOf(m)) || len(encode(m)) > 1<<16 {
		return false
	}
	if slices.ContainsFunc(m.Catalog, func(t api.Table) bool { return len(t.Rows) > 0 }) {
		return false
	}
	rest := m
	for _, p := range paths(m.Kind) {
		at(&rest, p).SetZero()
	}
	return reflect.DeepEqual(tidy(rest), api.Msg{Kind: m.Kind})
}

// change is a new v in which each list is what f makes of it.
func change(v reflect.Value, f func(l reflect.Value) reflect.Value) reflect.Value {
	out := reflect.New(v.Type()).Elem()
	out.Set(v)
	switch v.Kind() {
	case reflect.Slice:
		l := reflect.MakeSlice(v.Type(), v.Len(), v.Len())
		for i := range v.Len() {
			l.Index(i).Set(change(v.Index(i), f))
		}
		out.Set(f(l))
	case reflect.Struct:
		for i := range v.NumField() {
			out.Field(i).Set(change(v.Field(i), f))
		}
	}
	return out
}

// tidy is a new m whose empty lists are nil.
func tidy(m api.Msg) api.Msg {
	return change(reflect.ValueOf(m), func(l reflect.Value) reflect.Value {
		if l.Len() == 0 {
			return reflect.Zero(l.Type())
		}
		return l
	}).Interface().(api.Msg)
}

// draw is where a random message comes from; odd: how seldom something may not be.
type draw struct {
	*rand.Rand
	odd int
}

func pick[T any](d draw, l ...T) T { return l[d.IntN(len(l))] }

func (d draw) rarely() bool { return d.odd > 0 && d.IntN(d.odd) == 0 }

func (d draw) text(most int) string {
	if d.rarely() {
		return pick(d, strings.Repeat("a", most+1), "\xff", "\xc3", strings.Repeat("\x80", 300))
	}
	return pick(d, "", "a", "b", "t", "key", "é", "\x00", "a.b", strings.Repeat("c", 1+d.IntN(200)), strings.Repeat("é", most/2), strings.Repeat("d", most-1))
}

func (d draw) value() api.Value {
	if d.rarely() {
		return pick(d, api.Value{Kind: 4}, api.Value{Kind: 200}, api.Value{N: 1}, api.Value{Kind: api.KindInt, S: "a"}, api.Value{Kind: api.KindText, B: true})
	}
	switch d.IntN(4) {
	case 0:
		return boolean(d.IntN(2) == 0)
	case 1:
		return whole(d.whole())
	case 2:
		return text(d.text(256))
	}
	return api.Value{}
}

func (d draw) whole() int64 {
	return pick(d, 0, 1, -1, 2, 63, 64, -64, -65, 300, 8191, 8192, -8193, math.MaxInt64, math.MinInt64, int64(d.Uint64())>>d.IntN(64))
}

func (d draw) length() int {
	if d.rarely() {
		return pick(d, 64, 64, 65, 512, 513)
	}
	return pick(d, 0, 0, 1, 1, 2, 3)
}

// fill makes something of v.
func (d draw) fill(v reflect.Value) {
	switch v.Kind() {
	case reflect.Bool:
		v.SetBool(d.IntN(2) == 0)
	case reflect.Uint8:
		v.SetUint(uint64(pick(d, 0, 1, 2, 3, 4, d.IntN(256))))
	case reflect.Uint64:
		v.SetUint(pick(d, 0, 1, 127, 128, 300, math.MaxUint64, d.Uint64()>>d.IntN(64)))
	case reflect.Int, reflect.Int64:
		v.SetInt(d.whole())
	case reflect.String:
		v.SetString(pick(d, "", "t", d.text(2048)))
	case reflect.Slice:
		n := d.length()
		v.Set(reflect.MakeSlice(v.Type(), n, n+d.IntN(3)))
		for i := range v.Len() {
			d.fill(v.Index(i))
		}
	case reflect.Struct:
		if v.Type() == reflect.TypeFor[api.Value]() {
			v.Set(reflect.ValueOf(d.value()))
			return
		}
		for _, p := range inner(v) {
			d.fill(p)
		}
	}
}

func (d draw) message() api.Msg {
	m := api.Msg{Kind: api.MsgKind(1 + d.IntN(9))}
	for _, p := range paths(m.Kind) {
		d.fill(at(&m, p))
	}
	if d.odd > 0 && d.IntN(20) == 0 {
		d.fill(at(&m, pick(d, paths(api.MsgKind(1+d.IntN(9)))...)))
	}
	if len(m.Catalog) > 0 && d.rarely() {
		d.fill(reflect.ValueOf(&m.Catalog[0].Rows).Elem())
	}
	if d.odd > 0 && d.IntN(20) == 0 {
		m.Kind = api.MsgKind(d.IntN(256))
	}
	return m
}

func TestMessagesAsTheDocumentSays(t *testing.T) { // 9.1, 9.3, P2, P5
	d := draw{rand.New(rand.NewPCG(9, 1)), 200}
	right, wrong := make(map[api.MsgKind]int), make(map[api.MsgKind]int)
	for range 20000 {
		m := d.message()
		why, want := wire.Check(m), api.ErrWire
		s, why1 := wire.Write(m)
		all := ""
		if isRight(m) {
			want, all = api.OK, encode(m)
			right[m.Kind]++
			if again, why := wire.Read(s); !reflect.DeepEqual(again, tidy(m)) || why != api.OK {
				t.Fatalf("Read of Write of %v is %v, error %d", m, again, why)
			}
		} else {
			wrong[m.Kind]++
		}
		if why != want || why1 != want || s != all {
			t.Fatalf("of %v: errors %d and %d, not %d; %x, not %x", m, why, why1, want, s, all)
		}
	}
	for _, k := range allKinds() {
		if right[k] < 500 || wrong[k] < 30 {
			t.Errorf("of kind %d %d messages are right, %d are not", k, right[k], wrong[k])
		}
	}
}

// spoil is s with something else in it.
func (d draw) spoil(s string) string {
	i := d.IntN(len(s) + 1)
	switch d.IntN(6) {
	case 0:
		return s[:i]
	case 1:
		return s[:i] + string([]byte{pick(d, 0, 1, 2, 0x80, byte(d.IntN(256)))}) + s[i:]
	case 2:
		return s[:i] + s[i:][min(1, len(s)-i):]
	case 3:
		return s[:i] + "\x80\x00" + s[i:][min(1, len(s)-i):]
	case 4:
		k := d.IntN(len(s) + 1)
		return s[:i] + s[k:]
	}
	if i == len(s) {
		return s
	}
	return s[:i] + string([]byte{s[i] ^ 1<<d.IntN(8)}) + s[i+1:]
}

// read holds Read against the second reading, and tells whether there is a message.
func read(t *testing.T, s string) bool {
	t.Helper()
	want, ok := decode(s)
	m, why := wire.Read(s)
	if (why == api.OK) != ok || !ok && why != api.ErrWire || !reflect.DeepEqual(m, tidy(want)) {
		t.Fatalf("Read(%x) = %v, error %d; not %v, %v", s, m, why, want, ok)
	}
	if !ok {
		return false
	}
	if again, why := wire.Write(m); again != s || why != api.OK {
		t.Fatalf("Write of Read of %x is %x, error %d", s, again, why)
	}
	return true
}

func TestTextsAsTheDocumentSays(t *testing.T) { // 9.1, 9.3, 9.4, P5
	d := draw{rand.New(rand.NewPCG(9, 2)), 2000}
	right, wrong := 0, 0
	for range 20000 {
		s := encode(d.message())
		for range d.IntN(3) {
			s = d.spoil(s)
		}
		if read(t, s) {
			right++
		} else {
			wrong++
		}
	}
	if right < 3000 || wrong < 3000 {
		t.Errorf("%d texts are messages, %d are none", right, wrong)
	}
}

func TestAnyBytes(t *testing.T) { // 9.4
	for a := range 256 {
		read(t, string([]byte{byte(a)}))
		for b := range 256 {
			read(t, string([]byte{byte(a), byte(b)}))
		}
	}
	d := draw{rand.New(rand.NewPCG(9, 3)), 0}
	right := 0
	for range 80000 {
		b := []byte{byte(1 + d.IntN(9))}
		for range d.IntN(60) {
			b = append(b, pick(d, 0, 0, 0, 0, 1, 1, 2, 3, 0x80, byte(d.IntN(256))))
		}
		if read(t, string(b)) {
			right++
		}
	}
	if right < 500 {
		t.Errorf("%d texts are messages", right)
	}
}

func TestCutAnywhere(t *testing.T) { // 9.4
	d := draw{rand.New(rand.NewPCG(9, 4)), 0}
	for range 500 {
		m := d.message()
		if !isRight(m) {
			continue
		}
		s, _ := wire.Write(m)
		for n := range len(s) {
			if again, why := wire.Read(s[:n]); !reflect.DeepEqual(again, api.Msg{}) || why != api.ErrWire {
				t.Fatalf("%d bytes of %x: %v, error %d", n, s, again, why)
			}
		}
		for b := range 256 {
			if _, why := wire.Read(s + string([]byte{byte(b)})); why != api.ErrWire {
				t.Fatalf("%x and %x: error %d", s, b, why)
			}
		}
	}
}
