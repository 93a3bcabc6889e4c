package worker

import (
	"slices"

	"potsherd/api"
	"potsherd/disk"
	"potsherd/rpc"
	"potsherd/stream"
)

func isWorker(id int) bool { return id >= 1 && id < api.MaxNodes }

func isFrag(id int) bool { return id >= 0 && id < api.MaxFrags }

func isRight(w api.Worker) bool {
	return isWorker(w.Id) && disk.Check(w.Disk) == api.OK && rpc.CheckWindow(w.Over) == api.OK && areTasks(w)
}

// areTasks tells whether w may have its tasks.
func areTasks(w api.Worker) bool {
	if len(w.Tasks) > api.MaxTasks {
		return false
	}
	for i, t := range w.Tasks {
		if !isTask(t, w) || slices.ContainsFunc(w.Tasks[:i], isLike(t)) {
			return false
		}
	}
	return true
}

// isTask tells whether t may be a task of w, whatever others there are.
func isTask(t api.Task, w api.Worker) bool {
	return t.Seen <= w.Now && isFrag(t.Frag.Id) && t.Frag.Node == w.Id && areFew(t.Frag.Left.Frags, t.Frag.Right.Frags, t.Frag.To, t.Nodes) && areStreams(t)
}

// areFew tells whether none of these lists has more parts than a query has fragments.
func areFew(lists ...[]int) bool {
	return !slices.ContainsFunc(lists, func(l []int) bool { return len(l) > api.MaxFrags })
}

func areStreams(t api.Task) bool {
	isWrongIn := func(i api.In) bool { return stream.CheckIn(i) != api.OK }
	isWrongOut := func(o api.Out) bool { return stream.CheckOut(o) != api.OK }
	if len(t.Ins) > 2*api.MaxFrags || len(t.Outs) > api.MaxFrags {
		return false
	}
	return !slices.ContainsFunc(t.Ins, isWrongIn) && !slices.ContainsFunc(t.Outs, isWrongOut)
}

// isLike tells of tasks whether they are of the same fragment and attempt as t.
func isLike(t api.Task) func(api.Task) bool {
	return func(x api.Task) bool {
		return x.Query == t.Query && x.Attempt == t.Attempt && x.Frag.Id == t.Frag.Id
	}
}
