package coord

import (
	"slices"

	"potsherd/api"
	"potsherd/bind"
	"potsherd/disk"
	"potsherd/lease"
	"potsherd/place"
	"potsherd/plan"
	"potsherd/publish"
	"potsherd/stream"
)

func isRight(c api.Coord) bool {
	if place.Check(c.Layout) != api.OK || disk.Check(c.Disk) != api.OK || plan.Check(c.Layout, c.Claims) != api.OK {
		return false
	}
	return areLeases(c) && areRuns(c) && areLoads(c)
}

func areLeases(c api.Coord) bool {
	return lease.Check(c.Leases) == api.OK && len(c.Leases.Boots) == c.Layout.Nodes
}

func areRuns(c api.Coord) bool {
	isWrong := func(r api.Run) bool { return r.N > c.Last || !isRun(c.Layout, r) }
	return len(c.Runs) <= api.MaxRuns && !slices.ContainsFunc(c.Runs, isWrong)
}

func areLoads(c api.Coord) bool {
	isWrong := func(x api.Load) bool { return x.N > c.Last || publish.Check(c.Layout, x) != api.OK }
	return len(c.Loads) <= api.MaxRuns && !slices.ContainsFunc(c.Loads, isWrong)
}

// isRun tells whether r may be a run, whatever its number.
func isRun(l api.Layout, r api.Run) bool {
	if plan.Check(l, r.Claims) != api.OK || !bind.Right(r.Bound, plan.Catalog(r.Claims)) {
		return false
	}
	return r.Attempt >= 1 && r.Attempt <= api.MaxAttempts && areFrags(l, r) && areIns(r.Ins)
}

func areFrags(l api.Layout, r api.Run) bool {
	if len(r.Frags) > api.MaxFrags || len(r.Boots) != len(r.Frags) {
		return false
	}
	for i, f := range r.Frags {
		if f.Id != i || f.Node < 1 || f.Node >= l.Nodes {
			return false
		}
	}
	return true
}

func areIns(l []api.In) bool {
	isWrong := func(i api.In) bool { return stream.CheckIn(i) != api.OK }
	return len(l) <= api.MaxFrags && !slices.ContainsFunc(l, isWrong)
}
