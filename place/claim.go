package place

import (
	"slices"

	"potsherd/api"
	"potsherd/value"
)

// CheckClaim tells ErrState, if c is not right of l.
func CheckClaim(l api.Layout, c api.Claim) api.Errno {
	if why := Check(l); why != api.OK {
		return why
	}
	if value.CheckTable(api.Table{Name: c.Table, Cols: c.Cols}) != api.OK || len(c.Owners) != l.Shards {
		return api.ErrState
	}
	if slices.ContainsFunc(c.Owners, func(owners []int) bool { return !areOwners(l, owners) }) {
		return api.ErrState
	}
	return api.OK
}

// areOwners tells whether a shard may be owned so: by workers, one at least, each above the one before.
func areOwners(l api.Layout, owners []int) bool {
	last := 0
	for _, w := range owners {
		if !isWithin(w, last+1, l.Nodes-1) {
			return false
		}
		last = w
	}
	return len(owners) > 0
}

// Pick chooses for each shard one of its owners that are alive, by turns, so that no worker is asked for all.
func Pick(l api.Layout, c api.Claim, alive []bool) ([]int, api.Errno) {
	if why := CheckClaim(l, c); why != api.OK {
		return nil, why
	}
	isDead := func(w int) bool { return w >= len(alive) || !alive[w] }
	picked := make([]int, l.Shards)
	for s := range l.Shards {
		left := slices.DeleteFunc(slices.Clone(c.Owners[s]), isDead)
		if len(left) == 0 {
			return nil, api.ErrUnavailable
		}
		picked[s] = left[s%len(left)]
	}
	return picked, api.OK
}
