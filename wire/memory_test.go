package wire_test

import (
	"math/rand/v2"
	"reflect"
	"runtime"
	"strings"
	"sync"
	"testing"
	"unsafe"

	"potsherd/api"
	"potsherd/wire"
)

// span is a piece of memory.
type span struct{ from, to uintptr }

func (a span) meets(b span) bool { return a.from < b.to && b.from < a.to }

// memory is where v's lists, the room behind them with them, and its texts lie.
func memory(v reflect.Value) (lists, texts []span) {
	switch v.Kind() {
	case reflect.String:
		if s := v.String(); s != "" {
			texts = append(texts, spanOf(s))
		}
	case reflect.Slice:
		if n := uintptr(v.Cap()) * v.Type().Elem().Size(); n > 0 {
			lists = append(lists, span{v.Pointer(), v.Pointer() + n})
		}
		for i := range v.Len() {
			l, s := memory(v.Index(i))
			lists, texts = append(lists, l...), append(texts, s...)
		}
	case reflect.Struct:
		for i := range v.NumField() {
			l, s := memory(v.Field(i))
			lists, texts = append(lists, l...), append(texts, s...)
		}
	}
	return lists, texts
}

func spanOf(s string) span {
	p := uintptr(unsafe.Pointer(unsafe.StringData(s)))
	return span{p, p + uintptr(len(s))}
}

func TestReadIsNewMemory(t *testing.T) { // 9.2
	for name, x := range examples() {
		s := strings.Clone(x.text)
		first, _ := wire.Read(s)
		second, _ := wire.Read(s)
		lists, texts := memory(reflect.ValueOf(first))
		lists2, texts2 := memory(reflect.ValueOf(second))
		if name == "start" && (len(lists) < 11 || len(texts) < 9) {
			t.Fatalf("%d lists, %d texts", len(lists), len(texts))
		}
		for i, a := range lists {
			for _, b := range append(lists[i+1:], lists2...) {
				if a.meets(b) {
					t.Errorf("%s: two lists share memory", name)
				}
			}
		}
		for _, a := range append(texts, texts2...) {
			if a.meets(spanOf(s)) {
				t.Errorf("%s: a text lies in what was read", name)
			}
		}
		runtime.KeepAlive(s)
		runtime.KeepAlive(first)
		runtime.KeepAlive(second)
	}
}

func TestWriteIsNewMemory(t *testing.T) { // 9.2
	for name, x := range examples() {
		_, texts := memory(reflect.ValueOf(x.m))
		a, _ := wire.Write(x.m)
		b, _ := wire.Write(x.m)
		if spanOf(a).meets(spanOf(b)) {
			t.Errorf("%s: two texts share memory", name)
		}
		for _, s := range texts {
			if s.meets(spanOf(a)) {
				t.Errorf("%s: a text shares memory with what was written", name)
			}
		}
		runtime.KeepAlive(x)
	}
}

// withRoom is a new m with room behind each list, in which something stands.
func withRoom(m api.Msg) api.Msg {
	d := draw{rand.New(rand.NewPCG(9, 5)), 0}
	return change(reflect.ValueOf(m), func(l reflect.Value) reflect.Value {
		out := reflect.MakeSlice(l.Type(), l.Len()+3, l.Len()+3)
		reflect.Copy(out, l)
		for i := range 3 {
			d.fill(out.Index(l.Len() + i))
		}
		return out.Slice(0, l.Len())
	}).Interface().(api.Msg)
}

// whatIsThere is a new m with all that stands behind its lists in them.
func whatIsThere(m api.Msg) api.Msg {
	v := reflect.ValueOf(m)
	return all(v).Interface().(api.Msg)
}

func all(v reflect.Value) reflect.Value {
	out := reflect.New(v.Type()).Elem()
	out.Set(v)
	switch v.Kind() {
	case reflect.Slice:
		l := reflect.MakeSlice(v.Type(), v.Cap(), v.Cap())
		for i := range v.Cap() {
			l.Index(i).Set(all(v.Slice(0, v.Cap()).Index(i)))
		}
		out.Set(l)
	case reflect.Struct:
		for i := range v.NumField() {
			out.Field(i).Set(all(v.Field(i)))
		}
	}
	return out
}

func TestNothingIsChanged(t *testing.T) { // 9.2
	d := draw{rand.New(rand.NewPCG(9, 6)), 100}
	for range 1000 {
		m := withRoom(d.message())
		before := whatIsThere(m)
		wire.Check(m)
		wire.Write(m)
		if !reflect.DeepEqual(whatIsThere(m), before) {
			t.Fatalf("what was handed in was %v, and is %v", before, m)
		}
	}
}

func TestRoomIsNoMatter(t *testing.T) { // P3
	d := draw{rand.New(rand.NewPCG(9, 7)), 100}
	for range 1000 {
		m := d.message()
		a, why := wire.Write(m)
		b, why1 := wire.Write(withRoom(m))
		if a != b || why != why1 || wire.Check(withRoom(m)) != wire.Check(m) {
			t.Fatalf("of %v: %x, error %d; with room %x, error %d", m, a, why, b, why1)
		}
	}
}

func TestSideBySide(t *testing.T) { // 9.2, P3: as nothing is changed, many may ask at once
	m := start()
	var w sync.WaitGroup
	for range 8 {
		w.Go(func() {
			for range 100 {
				s, why := wire.Write(m)
				if again, why1 := wire.Read(startText); s != startText || why != api.OK || why1 != api.OK || !reflect.DeepEqual(again, m) {
					t.Errorf("%x, error %d; %v, error %d", s, why, again, why1)
				}
			}
		})
	}
	w.Wait()
}

func TestAnything(t *testing.T) { // P1, P2, P3, P4
	before := runtime.NumGoroutine()
	d := draw{rand.New(rand.NewPCG(9, 8)), 40}
	ok := 0
	for range 2000 {
		m := d.message()
		a, why := wire.Write(m)
		b, why1 := wire.Write(m)
		if a != b || why != why1 || why != wire.Check(m) || why != api.OK && (a != "" || why != api.ErrWire) {
			t.Fatalf("of %v: %x, error %d; %x, error %d", m, a, why, b, why1)
		}
		if why == api.OK {
			ok++
		}
		s := d.spoil(d.spoil(encode(m)))
		x, why := wire.Read(s)
		y, why1 := wire.Read(strings.Clone(s))
		if why != why1 || !reflect.DeepEqual(x, y) || why != api.OK && (why != api.ErrWire || !reflect.DeepEqual(x, api.Msg{})) {
			t.Fatalf("Read(%x) = %v, error %d; and %v, error %d", s, x, why, y, why1)
		}
	}
	if ok < 200 || ok > 1800 {
		t.Errorf("%d messages are right", ok)
	}
	if n := runtime.NumGoroutine(); n > before { // an earlier test's own may have ended meanwhile
		t.Errorf("%d goroutines, and %d before", n, before)
	}
}

func TestNilAndEmptyAreAlike(t *testing.T) { // P1
	empty := func(m api.Msg) api.Msg {
		return change(reflect.ValueOf(m), func(l reflect.Value) reflect.Value { return l }).Interface().(api.Msg)
	}
	if m := empty(api.Msg{}); m.Rows == nil || m.Bound.Kinds == nil || m.Frag.Left.Frags == nil || m.File.Cols == nil {
		t.Fatal("these are nil:", m)
	}
	for name, x := range examples() {
		if s, why := wire.Write(empty(x.m)); s != x.text || why != api.OK {
			t.Errorf("%s: Write is %x, error %d", name, s, why)
		}
	}
	hold(t, "a catalog without rows", api.Msg{Kind: api.MsgStart, Catalog: []api.Table{{Rows: []api.Row{}}}}, true)
	hold(t, "a file without rows", api.Msg{Kind: api.MsgInstalled, File: api.File{Rows: []api.Row{}}}, true)
}
