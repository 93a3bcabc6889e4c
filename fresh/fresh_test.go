package fresh_test

import (
	"math/rand/v2"
	"reflect"
	"runtime"
	"strconv"
	"sync"
	"testing"
	"unsafe"

	"potsherd/api"
	"potsherd/fresh"
)

// maker makes things in which no two texts and no two numbers are alike, so that nothing that is lost or mixed up stays unseen.
type maker struct {
	n      int
	length func() int
}

func (k *maker) fill(v reflect.Value) {
	k.n++
	switch v.Kind() {
	case reflect.Bool:
		v.SetBool(true)
	case reflect.Uint8, reflect.Uint64:
		v.SetUint(uint64(k.n % 256))
	case reflect.Int, reflect.Int64:
		v.SetInt(int64(k.n))
	case reflect.String:
		v.SetString("text " + strconv.Itoa(k.n))
	case reflect.Slice:
		n := k.length()
		v.Set(reflect.MakeSlice(v.Type(), n+1, n+3))
		for i := range v.Len() {
			k.fill(v.Index(i))
		}
		v.SetLen(n) // something stands behind it
	case reflect.Struct:
		for i := range v.NumField() {
			k.fill(v.Field(i))
		}
	}
}

func (k *maker) message() (m api.Msg) {
	k.fill(reflect.ValueOf(&m).Elem())
	return m
}

func (k *maker) disk() (d api.Disk) {
	k.fill(reflect.ValueOf(&d).Elem())
	return d
}

func (k *maker) out() (o api.Out) {
	k.fill(reflect.ValueOf(&o).Elem())
	return o
}

func (k *maker) in() (i api.In) {
	k.fill(reflect.ValueOf(&i).Elem())
	return i
}

func (k *maker) worker() (w api.Worker) {
	k.fill(reflect.ValueOf(&w).Elem())
	return w
}

func (k *maker) coord() (c api.Coord) {
	k.fill(reflect.ValueOf(&c).Elem())
	return c
}

func (k *maker) world() (w api.World) {
	k.fill(reflect.ValueOf(&w).Elem())
	return w
}

func two() int { return 2 }

// span is a piece of memory.
type span struct{ from, to uintptr }

func (a span) meets(b span) bool { return a.from < b.to && b.from < a.to }

func meet(a, b []span) bool {
	for _, x := range a {
		for _, y := range b {
			if x.meets(y) {
				return true
			}
		}
	}
	return false
}

// memory is where v's lists, with the room behind them, and its texts lie.
func memory(v reflect.Value) (l []span) {
	switch v.Kind() {
	case reflect.String:
		if s := v.String(); s != "" {
			p := uintptr(unsafe.Pointer(unsafe.StringData(s)))
			l = append(l, span{p, p + uintptr(len(s))})
		}
	case reflect.Slice:
		if n := uintptr(v.Cap()) * v.Type().Elem().Size(); n > 0 {
			l = append(l, span{v.Pointer(), v.Pointer() + n})
		}
		for i := range v.Len() {
			l = append(l, memory(v.Index(i))...)
		}
	case reflect.Struct:
		for i := range v.NumField() {
			l = append(l, memory(v.Field(i))...)
		}
	}
	return l
}

// hold says that copied is just like v, in memory of its own.
func hold(t *testing.T, name string, v, copied any) {
	t.Helper()
	if !reflect.DeepEqual(tidy(v), copied) {
		t.Errorf("%s: %v is copied as %v", name, v, copied)
	}
	theirs, own := memory(reflect.ValueOf(v)), memory(reflect.ValueOf(copied))
	if meet(theirs, own) {
		t.Errorf("%s: a copy shares memory with what was copied", name)
	}
	for i, x := range own {
		if meet([]span{x}, own[i+1:]) {
			t.Errorf("%s: two parts of a copy share memory", name)
		}
	}
	runtime.KeepAlive(v)
	runtime.KeepAlive(copied)
}

// tidy is a new v whose empty lists are nil.
func tidy(x any) any {
	var walk func(v reflect.Value) reflect.Value
	walk = func(v reflect.Value) reflect.Value {
		out := reflect.New(v.Type()).Elem()
		out.Set(v)
		switch v.Kind() {
		case reflect.Slice:
			out.SetZero()
			for i := range v.Len() {
				out.Set(reflect.Append(out, walk(v.Index(i))))
			}
		case reflect.Struct:
			for i := range v.NumField() {
				out.Field(i).Set(walk(v.Field(i)))
			}
		}
		return out
	}
	return walk(reflect.ValueOf(x)).Interface()
}

func TestCopies(t *testing.T) { // 11.3, 12.3, 13.3
	k := &maker{length: two}
	m, d := k.message(), k.disk()
	if n := len(memory(reflect.ValueOf(m))); n != 79 {
		t.Errorf("a message has %d lists and texts", n)
	}
	hold(t, "a message", m, fresh.Msg(m))
	hold(t, "a disk", d, fresh.Disk(d))
	holdStreams(t, k.out(), k.in())
	r := rand.New(rand.NewPCG(6, 1))
	k.length = func() int { return r.IntN(4) }
	for range 300 {
		m, d := k.message(), k.disk()
		hold(t, "a message", m, fresh.Msg(m))
		hold(t, "a disk", d, fresh.Disk(d))
		holdStreams(t, k.out(), k.in())
	}
}

func holdStreams(t *testing.T, o api.Out, i api.In) {
	t.Helper()
	hold(t, "a stream that is sent", o, fresh.Out(o))
	hold(t, "a stream that is received", i, fresh.In(i))
	hold(t, "rows", i.Rows, fresh.Rows(i.Rows))
}

func TestCopiesOfWorkers(t *testing.T) { // 16.4
	k := &maker{length: two}
	w := k.worker()
	if n := len(memory(reflect.ValueOf(w))); n != 251 {
		t.Errorf("a worker has %d lists and texts", n)
	}
	hold(t, "a worker", w, fresh.Worker(w))
	hold(t, "a worker's copies", fresh.Worker(w), fresh.Worker(w))
	r := rand.New(rand.NewPCG(8, 1))
	k.length = func() int { return r.IntN(3) }
	for range 100 {
		w := k.worker()
		hold(t, "a worker", w, fresh.Worker(w))
	}
	k.length = func() int { return 0 }
	w = k.worker()
	hold(t, "a worker with nothing", w, fresh.Worker(w))
	hold(t, "no worker", api.Worker{}, fresh.Worker(api.Worker{}))
}

func TestCopiesOfCoordinators(t *testing.T) { // 17.3, 18.5
	k := &maker{length: two}
	c := k.coord()
	if n := len(memory(reflect.ValueOf(c))); n != 251 {
		t.Errorf("a coordinator has %d lists and texts", n)
	}
	holdCoord(t, c)
	hold(t, "a coordinator's copies", fresh.Coord(c), fresh.Coord(c))
	r := rand.New(rand.NewPCG(9, 1))
	k.length = func() int { return r.IntN(3) }
	for range 100 {
		holdCoord(t, k.coord())
	}
	k.length = func() int { return 0 }
	holdCoord(t, k.coord())
	holdCoord(t, api.Coord{})
	holdCoord(t, api.Coord{Loads: []api.Load{{}, {Acks: [][]int{nil, {}}}}, Runs: []api.Run{{}}, Claims: []api.Claim{{}}})
}

func holdCoord(t *testing.T, c api.Coord) {
	t.Helper()
	hold(t, "a coordinator", c, fresh.Coord(c))
	hold(t, "claims", c.Claims, fresh.Claims(c.Claims))
	for _, x := range c.Claims {
		hold(t, "a claim", x, fresh.Claim(x))
	}
	for _, x := range c.Loads {
		hold(t, "a load", x, fresh.Load(x))
	}
}

func TestCopiesOfWorlds(t *testing.T) { // 19.5
	k := &maker{length: two}
	w := k.world()
	if n := len(memory(reflect.ValueOf(w))); n != 251+1+2*251+1+3+1+2*(1+2+1+2*(1+2)) {
		t.Errorf("a world has %d lists and texts", n)
	}
	before := tidy(w)
	hold(t, "a world", w, fresh.World(w))
	hold(t, "a world's copies", fresh.World(w), fresh.World(w))
	if !reflect.DeepEqual(tidy(w), before) {
		t.Error("what was handed in was changed:", w)
	}
	r := rand.New(rand.NewPCG(10, 1))
	k.length = func() int { return r.IntN(3) }
	for range 30 {
		w := k.world()
		hold(t, "a world", w, fresh.World(w))
	}
	k.length = func() int { return 0 }
	w = k.world()
	hold(t, "a world of nothing", w, fresh.World(w))
	w = api.World{Workers: []api.Worker{{}}, Answers: []api.Told{{}, {Answer: api.Answer{Rows: []api.Row{nil, {}}}}}}
	hold(t, "a world of empty things", w, fresh.World(w))
	hold(t, "no world", api.World{}, fresh.World(api.World{}))
}

func TestTwoCopies(t *testing.T) { // 11.3, 12.3, 13.3: an answer shares no memory with an earlier one
	k := &maker{length: two}
	m, d := k.message(), k.disk()
	hold(t, "a message", fresh.Msg(m), fresh.Msg(m))
	hold(t, "a disk", fresh.Disk(d), fresh.Disk(d))
	o, i := k.out(), k.in()
	hold(t, "a stream that is sent", fresh.Out(o), fresh.Out(o))
	hold(t, "a stream that is received", fresh.In(i), fresh.In(i))
	hold(t, "rows", fresh.Rows(i.Rows), fresh.Rows(i.Rows))
}

func TestNothingIsChanged(t *testing.T) { // 11.3, 12.3, 13.3
	k := &maker{length: two}
	m, d, o, i, w, c := k.message(), k.disk(), k.out(), k.in(), k.worker(), k.coord()
	before, beforeDisk, beforeOut, beforeIn, beforeWorker, beforeCoord := tidy(m), tidy(d), tidy(o), tidy(i), tidy(w), tidy(c)
	nodes, behind := m.Nodes[:3], m.Nodes[:3][2]
	copied := fresh.Msg(m)
	fresh.Disk(d)
	fresh.Out(o)
	fresh.Rows(fresh.In(i).Rows)
	fresh.Worker(w)
	fresh.Coord(c)
	_ = append(copied.Nodes, -7)
	if !reflect.DeepEqual(tidy(m), before) || !reflect.DeepEqual(tidy(d), beforeDisk) || nodes[2] != behind {
		t.Error("what was handed in was changed:", m, d)
	}
	if !reflect.DeepEqual(tidy(o), beforeOut) || !reflect.DeepEqual(tidy(i), beforeIn) || !reflect.DeepEqual(tidy(w), beforeWorker) || !reflect.DeepEqual(tidy(c), beforeCoord) {
		t.Error("what was handed in was changed:", o, i, w, c)
	}
}

func TestNilAndEmptyAreAlike(t *testing.T) { // P1
	none := &maker{length: func() int { return 0 }}
	m, d := none.message(), none.disk()
	if m.Claims == nil || m.Bound.Kinds == nil || d.Files == nil {
		t.Fatal("these are nil:", m, d)
	}
	hold(t, "a message", m, fresh.Msg(m))
	hold(t, "a disk", d, fresh.Disk(d))
	holdStreams(t, none.out(), none.in())
	holdStreams(t, api.Out{}, api.In{})
	holdStreams(t, api.Out{Batches: [][]api.Row{nil, {}, {nil, {}}}}, api.In{Held: []api.Batch{{}, {Rows: []api.Row{}}}})
	hold(t, "no message", api.Msg{}, fresh.Msg(api.Msg{}))
	hold(t, "no disk", api.Disk{}, fresh.Disk(api.Disk{}))
	m = api.Msg{Rows: []api.Row{nil, {}, {{}}}, Claims: []api.Claim{{}, {Owners: [][]int{nil, {}, {1}}}}, Catalog: []api.Table{{}, {Rows: []api.Row{}}}}
	hold(t, "lists of nothing", m, fresh.Msg(m))
}

func TestSideBySide(t *testing.T) { // P3: as nothing is changed, many may ask at once
	k := &maker{length: two}
	m, d, o, i := k.message(), k.disk(), k.out(), k.in()
	var w sync.WaitGroup
	for range 8 {
		w.Go(func() {
			for range 20 {
				hold(t, "a message", m, fresh.Msg(m))
				hold(t, "a disk", d, fresh.Disk(d))
				holdStreams(t, o, i)
			}
		})
	}
	w.Wait()
}
