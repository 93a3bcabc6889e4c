package coord

import (
	"slices"

	"potsherd/api"
	"potsherd/files"
	"potsherd/plan"
	"potsherd/publish"
)

// bring sends what x wants sent.
func (c *change) bring(x api.Load) {
	c.posts = append(c.posts, publish.Wants(c.Layout, x)...)
}

// settle answers the loads that wait no more. If the power goes meanwhile, the one that is being published, and those behind it, stay as they are.
func (c *change) settle() {
	alive, loads := c.alive(), c.Loads
	c.Loads = nil
	for i, x := range loads {
		why, isOver := c.settled(x, alive)
		if c.Disk.Down {
			c.Loads = append(c.Loads, loads[i:]...)
			return
		}
		if !isOver {
			c.Loads = append(c.Loads, x)
			continue
		}
		c.answer(api.Answer{N: x.N, Why: why})
	}
}

// settled publishes x, if it is ready, and tells its answer, if it waits no more.
func (c *change) settled(x api.Load, alive []bool) (why api.Errno, isOver bool) {
	switch publish.State(c.Layout, x, alive) {
	case api.LoadReady:
		return stopped(func() { c.publish(x) }), true
	case api.LoadLost:
		return api.ErrUnavailable, true
	}
	return api.OK, false
}

// publish keeps the claims with that of x, and takes them for its own once they are kept; it stops with why they can't be.
func (c *change) publish(x api.Load) {
	claims := withClaim(c.Claims, publish.Claim(c.Layout, x))
	// Loads of several new tables may be under way at once; with one too many published the coordinator would not be right any more.
	need(plan.Check(c.Layout, claims))
	d, why := files.Publish(c.Disk, claims)
	c.Disk = d
	need(why)
	c.Claims = claims
}

// withClaim is a new list of claims with x in the place of the one of its table, or behind all.
func withClaim(claims []api.Claim, x api.Claim) []api.Claim {
	with := slices.Clone(claims)
	at := slices.IndexFunc(with, func(c api.Claim) bool { return c.Table == x.Table })
	if at < 0 {
		return append(with, x)
	}
	with[at] = x
	return with
}
