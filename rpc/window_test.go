package rpc_test

import (
	"math"
	"math/rand/v2"
	"reflect"
	"slices"
	"testing"

	"potsherd/api"
	"potsherd/rpc"
)

// window is one of the numbers from a to b, b not with them.
func window(a, b uint64) (w api.WindowOf) {
	for n := a; n < b; n++ {
		w.Ids = append(w.Ids, qid(1, n))
	}
	return w
}

func windowOf(l ...api.Qid) api.WindowOf { return api.WindowOf{Ids: l} }

// wrongWindows are those that are not right.
func wrongWindows() map[string]api.WindowOf {
	return map[string]api.WindowOf{
		"one more":               window(0, 17),
		"far more":               window(0, 1000),
		"nothing, twice":         windowOf(qid(0, 0), qid(0, 0)),
		"one twice":              windowOf(qid(1, 2), qid(1, 2)),
		"the first and the last": {Ids: append(window(0, 15).Ids, qid(1, 0))},
		"the last ones":          {Ids: append(window(0, 15).Ids, qid(1, 14))},
		"the first ones":         {Ids: append([]api.Qid{qid(1, 0)}, window(0, 3).Ids...)},
		"thrice":                 windowOf(qid(7, 7), qid(1, 1), qid(7, 7), qid(7, 7)),
		"one more, and twice":    {Ids: append(window(0, 16).Ids, qid(1, 5))},
	}
}

func TestCheckWindow(t *testing.T) { // 12.2
	for name, w := range map[string]api.WindowOf{
		"empty": {}, "one": windowOf(qid(0, 0)), "some": window(5, 9), "full": window(0, 16), "nearly full": window(0, 15), "falling": windowOf(qid(9, 9), qid(3, 3)),
		"the same opening": windowOf(qid(1, 2), qid(1, 3)), "the same number": windowOf(qid(1, 2), qid(2, 2)), "the other way round": windowOf(qid(1, 2), qid(2, 1)),
		"great numbers": windowOf(qid(math.MaxUint64, math.MaxUint64), qid(math.MaxUint64, 0), qid(0, math.MaxUint64)),
	} {
		if why := rpc.CheckWindow(w); why != api.OK {
			t.Errorf("%s: error %d", name, why)
		}
	}
	for name, w := range wrongWindows() {
		if why := rpc.CheckWindow(w); why != api.ErrState {
			t.Errorf("%s: error %d", name, why)
		}
	}
}

func puts(t *testing.T, name string, w api.WindowOf, q api.Qid, want api.WindowOf) {
	t.Helper()
	if got, why := rpc.Put(w, q); why != api.OK || !reflect.DeepEqual(got, want) {
		t.Errorf("%s: Put is %v, error %d; not %v", name, got, why, want)
	}
}

func TestPut(t *testing.T) { // 12.2
	puts(t, "the first", api.WindowOf{}, qid(0, 0), windowOf(qid(0, 0)))
	puts(t, "another", windowOf(qid(5, 5)), qid(1, 1), windowOf(qid(5, 5), qid(1, 1)))
	puts(t, "another opening", windowOf(qid(5, 5)), qid(1, 5), windowOf(qid(5, 5), qid(1, 5)))
	puts(t, "another number", windowOf(qid(5, 5)), qid(5, 1), windowOf(qid(5, 5), qid(5, 1)))
	puts(t, "the last place", window(0, 15), qid(1, 15), window(0, 16))
	puts(t, "full", window(0, 16), qid(1, 16), window(1, 17))
	puts(t, "the only one again", window(3, 4), qid(1, 3), window(3, 4))
	puts(t, "the first again", window(0, 3), qid(1, 0), windowOf(qid(1, 1), qid(1, 2), qid(1, 0)))
	puts(t, "the last again", window(0, 3), qid(1, 2), window(0, 3))
	puts(t, "one between", window(0, 3), qid(1, 1), windowOf(qid(1, 0), qid(1, 2), qid(1, 1)))
	// Of a full one that has it nothing goes.
	puts(t, "the first again, full", window(0, 16), qid(1, 0), api.WindowOf{Ids: append(window(1, 16).Ids, qid(1, 0))})
	puts(t, "the last again, full", window(0, 16), qid(1, 15), window(0, 16))
	puts(t, "one between, full", window(0, 16), qid(1, 7), api.WindowOf{Ids: slices.Concat(window(0, 7).Ids, window(8, 16).Ids, window(7, 8).Ids)})
}

func TestPutToWrongWindows(t *testing.T) { // 12.2, P2
	for name, w := range wrongWindows() {
		for _, q := range []api.Qid{{}, qid(1, 0), qid(1, 5), qid(9, 9)} {
			if got, why := rpc.Put(w, q); why != api.ErrState || !reflect.DeepEqual(got, api.WindowOf{}) {
				t.Errorf("%s: Put is %v, error %d", name, got, why)
			}
		}
	}
}

func TestHas(t *testing.T) { // 12.2
	for name, x := range map[string]struct {
		w    api.WindowOf
		q    api.Qid
		want bool
	}{
		"none": {api.WindowOf{}, qid(0, 0), false}, "the only one": {windowOf(qid(1, 2)), qid(1, 2), true}, "another opening": {windowOf(qid(1, 2)), qid(2, 2), false},
		"another number": {windowOf(qid(1, 2)), qid(1, 1), false}, "the other way round": {windowOf(qid(1, 2)), qid(2, 1), false},
		"the first": {window(0, 16), qid(1, 0), true}, "the last": {window(0, 16), qid(1, 15), true}, "beyond": {window(0, 16), qid(1, 16), false},
		"of too many": {window(0, 17), qid(1, 16), true}, "twice": {windowOf(qid(1, 2), qid(1, 2)), qid(1, 2), true}, "not of these": {windowOf(qid(1, 2), qid(1, 2)), qid(0, 0), false},
	} {
		if got := rpc.Has(x.w, x.q); got != x.want {
			t.Errorf("%s: Has is %v", name, got)
		}
	}
}

func TestBounded(t *testing.T) { // 12.5
	r := rand.New(rand.NewPCG(12, 1))
	gone := 0
	for range 200 {
		var w api.WindowOf
		var put []api.Qid // the last one last, each once
		for range 100 {
			q := qid(uint64(r.IntN(3)), uint64(r.IntN(9)))
			next, why := rpc.Put(w, q)
			put = append(slices.DeleteFunc(put, func(x api.Qid) bool { return x == q }), q)
			last := put[max(0, len(put)-16):]
			if why != api.OK || rpc.CheckWindow(next) != api.OK || !slices.Equal(next.Ids, last) {
				t.Fatalf("Put(%v, %v) is %v, error %d", w, q, next, why)
			}
			for boot := range uint64(3) {
				for n := range uint64(9) {
					if x := qid(boot, n); rpc.Has(next, x) != slices.Contains(last, x) {
						t.Fatalf("Has(%v, %v)", next, x)
					}
				}
			}
			if len(put) > 16 {
				gone++
			}
			w = next
		}
	}
	if gone < 5000 {
		t.Errorf("%d times one was gone", gone)
	}
}
