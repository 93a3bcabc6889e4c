package fresh

import (
	"strings"

	"potsherd/api"
)

// Coord is c in new memory.
func Coord(c api.Coord) api.Coord {
	c.Disk = Disk(c.Disk)
	c.Leases.Boots = plain(c.Leases.Boots)
	c.Leases.Seen = plain(c.Leases.Seen)
	c.Claims = Claims(c.Claims)
	c.Runs = each(c.Runs, run)
	c.Loads = each(c.Loads, Load)
	c.Answers = each(c.Answers, answer)
	return c
}

func run(r api.Run) api.Run {
	r.Bound = bound(r.Bound)
	r.Claims = Claims(r.Claims)
	r.Frags = each(r.Frags, frag)
	r.Boots = plain(r.Boots)
	r.Ins = each(r.Ins, In)
	return r
}

// Load is x in new memory.
func Load(x api.Load) api.Load {
	x.Table = table(x.Table)
	x.Acks = each(x.Acks, plain[int])
	return x
}

func answer(a api.Answer) api.Answer {
	a.Names = each(a.Names, strings.Clone)
	a.Rows = Rows(a.Rows)
	return a
}
