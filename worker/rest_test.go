package worker_test

import (
	"slices"
	"strings"
	"testing"

	"potsherd/api"
	"potsherd/files"
	"potsherd/worker"
)

func TestClean(t *testing.T) { // 16.2, 16.6, 16.7
	w := idle()
	other := task(ofQuery(theirs(), waits()), 3, nil)
	old := task(inAttempt(attempt-1, waits()), 3, nil) // of another attempt, made by hand
	w.Tasks = append(w.Tasks, other, old)
	n := &node{t, w}
	n.receive("a Clean", 0, clean(mine()))
	want := opened(20, other)
	want.Over.Ids = []api.Qid{mine()}
	n.is("a Clean", want)
	n.ignores("a Clean again", 0, clean(mine()))
	n.ignores("a Start", 0, ask(all, scan()))
	n.ignores("a Start of a greater attempt", 0, inAttempt(99, ask(all, scan())))
	n.ignores("a Batch", 1, batches(link(0, 5), us(0, 3))[0])
	n.ignores("an Ack", 0, ack(link(3, -1), 3))
	n.receive("of nothing", 0, clean(api.Qid{}))
	want.Over.Ids = append(want.Over.Ids, api.Qid{})
	n.is("of nothing", want)
	n.receive("of the other one", 0, clean(theirs()))
	want.Tasks, want.Over.Ids = nil, append(want.Over.Ids, theirs())
	n.is("of the other one", want)
	n.receive("of the first one once more", 0, clean(mine()))
	want.Over.Ids = []api.Qid{{}, theirs(), mine()}
	n.is("of the first one once more", want)
}

func TestCleanOfAnotherNode(t *testing.T) { // 16.2
	n := &node{t, idle()}
	for _, from := range []int{1, me, 3, 7, 8, -1} {
		n.ignores("from another node", from, clean(mine()))
	}
}

func TestCleanForgets(t *testing.T) { // 16.2: as many as Window are remembered
	n := &node{t, opened(7)}
	n.receive("mine", 0, clean(mine()))
	for i := range uint64(15) {
		n.receive("another one", 0, clean(api.Qid{Boot: 7, N: i}))
		n.ignores("a Start", 0, ask(all, scan()))
	}
	n.receive("one too many", 0, clean(theirs()))
	if len(n.Over.Ids) != 16 {
		t.Error("over are", n.Over.Ids)
	}
	n.receive("a Start", 0, ask(all, scan()), slices.Concat(begun(1), post(0, batches(link(1, -1), ts(0, 40))[:4]...))...)
}

func TestInstall(t *testing.T) { // 16.2
	f := file("t", 7, ts(0, 64))
	want := opened(7)
	want.Disk, _ = files.Install(want.Disk, f)
	n := &node{t, opened(7)}
	n.receive("a shard", 0, install(f), post(0, installed(f))...)
	n.is("a shard", want)
	n.receive("again", 0, install(f), post(0, installed(f))...)
	n.is("again", want)
	if got, ok := files.Find(n.Disk, "t", version(), 7); !ok || !alike(got, f) {
		t.Error("found is", got)
	}
	none := file("u", 1, nil)
	n.receive("no rows", 0, install(none), post(0, installed(none))...)
	n.receive("nothing at all", 0, install(api.File{}), post(0, installed(api.File{}))...)
	for _, from := range []int{1, me, 3, 7, 8, -1} {
		n.ignores("from another node", from, install(file("t", 6, nil)))
	}
	m := ask(all, api.Frag{Id: 1, Node: me, Left: shard("t", 7)})
	n.receive("a Start of it", 0, m, slices.Concat(begun(1), post(0, batches(link(1, -1), ts(0, 64))[:4]...))...)
}

func TestInstallThatIsRefused(t *testing.T) { // 16.2: no answer; the Disk is as files.Install says
	f := file("t", 7, ts(0, 64))
	for fuse := range 5 {
		w := idle()
		w.Disk.Fuse = fuse
		want := w
		var why api.Errno
		want.Disk, why = files.Install(w.Disk, f)
		if (why == api.OK) != (fuse >= 3) || want.Disk.Down != (fuse < 3) {
			t.Fatalf("a fuse of %d: %v, error %d", fuse, want.Disk, why)
		}
		n := &node{t, w}
		if why == api.OK {
			n.receive("there is power", 0, install(f), post(0, installed(f))...)
		} else {
			n.receive("the power goes", 0, install(f))
		}
		n.is("a fuse", want)
		if !n.Disk.Down {
			continue
		}
		for name, m := range messages() {
			n.ignores("down, a "+name, 0, m)
		}
		n.tick("down")
		n.is("a tick", want)
	}
	w := opened(7)
	w.Disk.Files = append([]api.DiskFile{{Name: "a", Data: strings.Repeat("x", 1<<20-5000)}}, w.Disk.Files...)
	n := &node{t, w}
	n.ignores("no room", 0, install(file("t", 7, slices.Repeat(ts(0, 1), 500))))
	used := opened(7)
	used.Disk.Fuse = 0
	n = &node{t, used}
	n.receive("a fuse that is used up, and the shard is there", 0, install(kept()[0]), post(0, installed(kept()[0]))...)
	n.is("a fuse that is used up, and the shard is there", used)
}

func TestTick(t *testing.T) { // 16.3
	n := &node{t, opened(0)}
	for now := range uint64(20) {
		n.tick("nothing to do", beat()...)
		n.is("nothing to do", opened(now+1))
	}
	w := opened(0)
	for _, boot := range []uint64{0, 1, most} {
		w.Boot = boot
		n = &node{t, w}
		n.tick("a boot", post(0, api.Msg{Kind: api.MsgBeat, Boot: boot})...)
	}
}

func TestTickSendsAgain(t *testing.T) { // 16.3: Task by Task, Acks, then what is under way
	l := batches(link(0, 5), us(0, 20))
	first := ask(joined, join(shard("t", 0), sent(0, 4, 7, 1)))
	ins := []api.In{received(link(0, 5), l[0], l[2]), {Stream: link(4, 5)}, {Stream: link(7, 5)}, received(link(1, 5), batches(link(1, 5), nil)...)}
	second := ask(joined, spread(4, 0, 7, -1))
	outs := []api.Out{out(link(3, 4), us(0, 60), 1), out(link(3, 0), us(0, 60), 6), out(link(3, 7), us(0, 60), 0), out(link(3, -1), nil, 1)}
	third := task(ask(all, api.Frag{Id: 9, Node: me, Left: shard("t", 2)}), 4, []api.In{{Stream: link(2, 9)}}, out(link(9, 2), us(0, 3), 0))
	third.Ran = false // made by hand: Outs of a Task that was not run are under way, too
	n := &node{t, opened(7, task(first, 5, ins), task(second, 6, nil, outs...), third)}
	want := slices.Concat(beat(), post(1, ack(link(0, 5), 1)), post(7, ack(link(4, 5), 0)),
		post(7, batches(link(3, 4), us(0, 60))[1:5]...), post(1, batches(link(3, 0), us(0, 60))[6:]...),
		post(3, ack(link(2, 9), 0)), post(3, batches(link(9, 2), us(0, 3))...))
	for now := uint64(8); now < 12; now++ {
		n.tick("again", want...)
		n.is("again", opened(now, task(first, 5, ins), task(second, 6, nil, outs...), third))
	}
}

func TestTickRuns(t *testing.T) { // 16.3: what may be run by now
	m := ask(joined, join(shard("t", 3), sent(0)))
	l := batches(link(0, 5), us(0, 9))
	ins := []api.In{received(link(0, 5), l...)}
	n := &node{t, opened(7, task(m, 5, ins))}
	n.tick("no shard", beat()...)
	n.has("no shard", task(m, 5, ins))
	f := file("t", 3, ts(4, 6))
	n.receive("the shard", 0, install(f), post(0, installed(f))...)
	n.tick("the shard", slices.Concat(beat(), post(0, batches(link(5, -1), pairs(4, 6))...))...)
	n.has("the shard", task(m, 5, ins, out(link(5, -1), pairs(4, 6), 0)))
	n.tick("once it was run", slices.Concat(beat(), post(0, batches(link(5, -1), pairs(4, 6))...))...)
	ran := task(ask(all, scan()), 5, nil)
	ran.Ran = true
	n = &node{t, opened(7, ran)}
	n.tick("run already, without Outs", beat()...)
	n.has("run already, without Outs", ran)
	other := task(ask(all, scan()), 5, nil, out(link(7, 7), nil, 0), out(link(1, 4), us(0, 3), 0))
	other.Ran = false
	n = &node{t, opened(7, other)}
	n.tick("other Outs are no more", slices.Concat(beat(), post(0, batches(link(1, -1), ts(0, 40))[:4]...))...)
	n.has("other Outs are no more", task(ask(all, scan()), 5, nil, out(link(1, -1), ts(0, 40), 0)))
}

func TestTicksOfSilence(t *testing.T) { // 16.3, 16.7: LeaseTicks, and one less
	lost := func(q api.Qid, id int, seen uint64) api.Task {
		return task(ofQuery(q, ask(all, api.Frag{Id: id, Node: me, Left: shard("t", 2)})), seen, nil)
	}
	for _, begin := range []uint64{7, 1 << 50, most - 20} {
		n := &node{t, opened(begin, lost(mine(), 1, begin), lost(theirs(), 2, begin-1), lost(mine(), 3, begin-7))}
		n.tick("one went", beat()...)
		n.has("one went", lost(mine(), 1, begin), lost(theirs(), 2, begin-1))
		for i := range 5 {
			n.tick("a while", beat()...)
			n.is("a while", opened(begin+uint64(i)+2, lost(mine(), 1, begin), lost(theirs(), 2, begin-1)))
		}
		n.tick("the seventh", beat()...)
		n.is("the seventh", opened(begin+7, lost(mine(), 1, begin)))
		n.tick("the eighth", beat()...)
		n.is("the eighth", opened(begin+8))
	}
}

func TestTicksWithSomethingOfTheQuery(t *testing.T) { // 16.3, 16.7: whatever of a query comes keeps all its Tasks
	l := batches(link(0, 5), us(0, 20))
	for name, m := range map[string]api.Msg{"a Start": waits(), "a Batch": l[0], "an Ack": ack(link(3, -1), 1), "an Ack of too much": ack(link(3, -1), 99)} {
		n := &node{t, idle()}
		for range 30 {
			w, _ := worker.Receive(n.Worker, 0, m)
			for range 7 {
				w, _ = worker.Tick(w)
			}
			n.Worker = w
			if len(w.Tasks) != 2 || w.Tasks[0].Seen != w.Now-7 || w.Tasks[1].Seen != w.Now-7 {
				t.Fatalf("%s: the tasks are %v", name, w.Tasks)
			}
		}
		n.Worker, _ = worker.Tick(n.Worker)
		n.has(name + ", one tick more")
	}
	n := &node{t, idle()} // seen at 15 and 16; it is 20
	for _, m := range []api.Msg{l[1], ofQuery(theirs(), l[0]), inAttempt(1, l[0]), inAttempt(1, waits()), ack(link(1, -1), 1), messages()["Install"], messages()["Beat"]} {
		n.Worker, _ = worker.Receive(n.Worker, 1, m)
	}
	if n.Tasks[0].Seen != 20 { // the second batch was taken, ahead of the first
		t.Error("the tasks are", n.Tasks)
	}
	n = &node{t, idle()}
	for _, m := range []api.Msg{ofQuery(theirs(), l[0]), inAttempt(1, l[0]), inAttempt(1, waits()), ack(link(1, -1), 1), messages()["Install"], messages()["Beat"], clean(theirs())} {
		n.ignores("nothing of it", 1, m)
	}
	for range 4 {
		n.Worker, _ = worker.Tick(n.Worker)
	}
	if len(n.Tasks) != 0 {
		t.Error("the tasks are", n.Tasks)
	}
}

func TestTheLastTick(t *testing.T) { // 16.3: 2^64 - 1 stays
	x := task(ask(all, api.Frag{Id: 1, Node: me, Left: shard("t", 2)}), most-7, nil)
	late := x
	late.Frag.Id, late.Seen = 2, most-8
	last := x
	last.Frag.Id, last.Seen = 3, most
	n := &node{t, opened(most-1, x, late, last)}
	if why := worker.Check(n.Worker); why != api.ErrState { // seen later than now
		t.Error("Check: error", why)
	}
	n = &node{t, opened(most-1, x, late)}
	n.tick("the last but one", beat()...)
	n.is("the last but one", opened(most, x))
	n = &node{t, opened(most, x, late, last)}
	for range 20 {
		n.tick("the last", beat()...)
		n.is("the last", opened(most, x, last))
	}
	n.receive("a Start", 0, ask(all, scan()), begun(1)...)
	n.receive("a Clean", 0, clean(mine()))
	want := opened(most)
	want.Over.Ids = []api.Qid{mine()}
	n.is("a Clean", want)
}
