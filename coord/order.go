package coord

import (
	"math"
	"slices"

	"potsherd/api"
	"potsherd/bind"
	"potsherd/fresh"
	"potsherd/parse"
	"potsherd/plan"
	"potsherd/publish"
)

// numbered does what is ordered under a number of its own, and tells that; if it stops, why is the answer. Where there is no number left, nothing is done, nor answered, as there is none that an answer could be of: 0 is told.
func (c *change) numbered(do func(n uint64)) uint64 {
	if c.Last == math.MaxUint64 {
		return 0
	}
	c.Last++
	n := c.Last
	if why := stopped(func() { do(n) }); why != api.OK {
		c.answer(api.Answer{N: n, Why: why})
	}
	return n
}

// ask begins the run of a query's text.
func (c *change) ask(n uint64, text string) {
	q, why, _ := parse.Parse(text)
	need(why)
	b := must(bind.Bind(q, plan.Catalog(c.Claims)))
	if len(c.Runs) >= api.MaxRuns {
		panic(api.ErrFull)
	}
	// The claims are the run's own from now on: whatever is published meanwhile, all attempts read the same versions.
	r := api.Run{N: n, Bound: b, Claims: fresh.Claims(c.Claims)}
	c.Runs = append(c.Runs, c.begun(r))
}

// load begins the load of a table.
func (c *change) load(n uint64, t api.Table) {
	isIts := func(x api.Claim) bool { return x.Table == t.Name }
	if len(c.Loads) >= api.MaxRuns {
		panic(api.ErrFull)
	}
	if len(c.Claims) >= api.MaxTables && !slices.ContainsFunc(c.Claims, isIts) {
		panic(api.ErrMany)
	}
	x := must(publish.Begin(c.Layout, n, t, api.Version{Boot: c.Boot, Load: n}))
	c.Loads = append(c.Loads, x)
	c.bring(x)
}
