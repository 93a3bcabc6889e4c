package worker_test

import (
	"math"
	"slices"
	"strings"
	"testing"

	"potsherd/api"
	"potsherd/worker"
)

// plain is a task that is right, of that number.
func plain(id int) api.Task {
	return api.Task{Query: mine(), Attempt: attempt, Frag: api.Frag{Id: id, Node: me}}
}

// tasks are n that are right, no two of the same fragment.
func tasks(n int) (l []api.Task) {
	for i := range n {
		t := plain(i % 64)
		t.Attempt += i / 64
		l = append(l, t)
	}
	return l
}

// with is an idle worker with one more task, of which something is changed.
func with(change func(t *api.Task)) api.Worker {
	w, t := idle(), plain(9)
	change(&t)
	w.Tasks = append(w.Tasks, t)
	return w
}

// ids are numbers of n queries.
func ids(n int) (w api.WindowOf) {
	for i := range n {
		w.Ids = append(w.Ids, api.Qid{Boot: 1, N: uint64(i)})
	}
	return w
}

func manyIns(n int) (l []api.In) {
	for i := range n {
		l = append(l, api.In{Stream: link(i, 9)})
	}
	return l
}

func manyOuts(n int) (l []api.Out) {
	for i := range n {
		l = append(l, out(link(9, i), nil, 0))
	}
	return l
}

func ints(n int) []int { return make([]int, n) }

// changed is an idle worker of which something is changed.
func changed(change func(w *api.Worker)) api.Worker {
	w := idle()
	change(&w)
	return w
}

// right are workers that are.
func right() map[string]api.Worker {
	l := map[string]api.Worker{
		"idle":                   idle(),
		"the first":              {Id: 1},
		"the last":               {Id: 7},
		"down":                   {Id: 1, Disk: api.Disk{Down: true}},
		"no boot":                changed(func(w *api.Worker) { w.Boot = 0 }),
		"as late as may be":      changed(func(w *api.Worker) { w.Now, w.Boot = most, most }),
		"all tasks":              opened(0, tasks(128)...),
		"a full window":          changed(func(w *api.Worker) { w.Over = ids(16) }),
		"its query is over":      changed(func(w *api.Worker) { w.Over.Ids = []api.Qid{mine()} }),
		"a disk that is full":    changed(func(w *api.Worker) { w.Disk.Files = []api.DiskFile{{Name: "a", Data: strings.Repeat("x", 1<<20)}} }),
		"the first fragment":     with(func(t *api.Task) { t.Frag.Id = 0 }),
		"the last fragment":      with(func(t *api.Task) { t.Frag.Id = 63 }),
		"seen now":               with(func(t *api.Task) { t.Seen = 20 }),
		"seen long ago":          with(func(t *api.Task) { t.Seen = 0 }),
		"of another query":       with(func(t *api.Task) { t.Query, t.Frag.Id = theirs(), 5 }),
		"of another boot":        with(func(t *api.Task) { t.Query.Boot, t.Frag.Id = 9, 5 }),
		"of another attempt":     with(func(t *api.Task) { t.Attempt, t.Frag.Id = attempt+1, 5 }),
		"of no attempt":          with(func(t *api.Task) { t.Attempt = math.MinInt }),
		"as many of Left":        with(func(t *api.Task) { t.Frag.Left.Frags = ints(64) }),
		"as many of Right":       with(func(t *api.Task) { t.Frag.Right.Frags = ints(64) }),
		"as many of To":          with(func(t *api.Task) { t.Frag.To = ints(64) }),
		"as many nodes":          with(func(t *api.Task) { t.Nodes = ints(64) }),
		"odd numbers in lists":   with(func(t *api.Task) { t.Frag.To, t.Nodes = []int{-7, math.MaxInt}, []int{99, math.MinInt} }),
		"as many Ins":            with(func(t *api.Task) { t.Ins = manyIns(128) }),
		"as many Outs":           with(func(t *api.Task) { t.Outs = manyOuts(64) }),
		"an In twice":            with(func(t *api.Task) { t.Ins = append(manyIns(1), manyIns(1)...) }),
		"an Out twice":           with(func(t *api.Task) { t.Outs = append(manyOuts(1), manyOuts(1)...) }),
		"Outs, and not run":      with(func(t *api.Task) { t.Outs = manyOuts(2) }),
		"run without Outs":       with(func(t *api.Task) { t.Ran = true }),
		"a catalog with rows":    with(func(t *api.Task) { t.Catalog = []api.Table{{Rows: ts(0, 90)}} }),
		"a query that is none":   with(func(t *api.Task) { t.Bound.Items = make([]api.Item, 99) }),
		"a kind that is none":    with(func(t *api.Task) { t.Frag.Left.Kind = 99 }),
		"streams of other tasks": with(func(t *api.Task) { t.Ins, t.Outs = []api.In{{}}, []api.Out{out(api.Stream{}, nil, 1)} }),
	}
	return l
}

// wrong are workers that are not right.
func wrong() map[string]api.Worker {
	l := map[string]api.Worker{
		"zero":                       {},
		"the coordinator":            changed(func(w *api.Worker) { w.Id = 0; w.Tasks = nil }),
		"past the last":              changed(func(w *api.Worker) { w.Id = 8; w.Tasks = nil }),
		"below all":                  changed(func(w *api.Worker) { w.Id = -1; w.Tasks = nil }),
		"far past the last":          {Id: math.MaxInt},
		"far below all":              {Id: math.MinInt},
		"another node":               changed(func(w *api.Worker) { w.Id = 3 }),
		"a task too many":            opened(0, tasks(129)...),
		"far too many tasks":         opened(0, tasks(400)...),
		"a window too long":          changed(func(w *api.Worker) { w.Over = ids(17) }),
		"a query over twice":         changed(func(w *api.Worker) { w.Over.Ids = []api.Qid{theirs(), mine(), theirs()} }),
		"seen later":                 with(func(t *api.Task) { t.Seen = 21 }),
		"seen far later":             with(func(t *api.Task) { t.Seen = most }),
		"an earlier time":            changed(func(w *api.Worker) { w.Now = 15 }),
		"a fragment below all":       with(func(t *api.Task) { t.Frag.Id = -1 }),
		"a fragment past the last":   with(func(t *api.Task) { t.Frag.Id = 64 }),
		"another node's fragment":    with(func(t *api.Task) { t.Frag.Node = 3 }),
		"no node's fragment":         with(func(t *api.Task) { t.Frag.Node = 0 }),
		"one more of Left":           with(func(t *api.Task) { t.Frag.Left.Frags = ints(65) }),
		"one more of Right":          with(func(t *api.Task) { t.Frag.Right.Frags = ints(65) }),
		"one more of To":             with(func(t *api.Task) { t.Frag.To = ints(65) }),
		"one more node":              with(func(t *api.Task) { t.Nodes = ints(65) }),
		"one more In":                with(func(t *api.Task) { t.Ins = manyIns(129) }),
		"one more Out":               with(func(t *api.Task) { t.Outs = manyOuts(65) }),
		"an In that is not right":    with(func(t *api.Task) { t.Ins = append(manyIns(3), api.In{Next: 513}) }),
		"an In with a row more":      with(func(t *api.Task) { t.Ins = []api.In{{Next: 1, Rows: ts(0, 9)}} }),
		"an In done with nothing":    with(func(t *api.Task) { t.Ins = []api.In{{Done: true}} }),
		"an Out that is not right":   with(func(t *api.Task) { t.Outs = append(manyOuts(3), api.Out{}) }),
		"an Out acked too much":      with(func(t *api.Task) { t.Outs = []api.Out{out(link(9, 1), nil, 2)} }),
		"a task twice":               with(func(t *api.Task) { t.Frag.Id = 5 }),
		"a task twice, side by side": opened(0, slices.Concat(tasks(1), tasks(1))...),
		"the last of all twice":      opened(0, slices.Concat(tasks(127), tasks(127)[126:])...),
		"the first of all twice":     opened(0, slices.Concat(tasks(127), tasks(1))...),
	}
	for name, d := range wrongDisks() {
		l["a disk: "+name] = changed(func(w *api.Worker) { w.Disk = d })
	}
	return l
}

func TestCheck(t *testing.T) { // 16.1
	for name, w := range right() {
		if why := worker.Check(w); why != api.OK {
			t.Errorf("%s: error %d", name, why)
		}
	}
	for name, w := range wrong() {
		if why := worker.Check(w); why != api.ErrState {
			t.Errorf("%s: error %d", name, why)
		}
	}
}

func TestRightWorkersStayRight(t *testing.T) { // 16.5
	for name, w := range right() {
		for kind, m := range messages() {
			for _, from := range []int{0, 1, me, 8} {
				got, posts := worker.Receive(w, from, m)
				if why := worker.Check(got); why != api.OK || got.Id != w.Id {
					t.Errorf("%s, a %s: %v, error %d", name, kind, got, why)
				}
				if w.Disk.Down && (len(posts) > 0 || !alike(got, w)) {
					t.Errorf("%s, a %s: %v, %v", name, kind, got, posts)
				}
			}
		}
		for i := range 10 {
			if w, _ = worker.Tick(w); worker.Check(w) != api.OK {
				t.Errorf("%s: not right behind %d ticks", name, i)
			}
		}
	}
}
