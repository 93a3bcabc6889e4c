package coord

import (
	"slices"

	"potsherd/api"
	"potsherd/lease"
	"potsherd/publish"
	"potsherd/stream"
)

// takers are what becomes of a message, by its kind.
func (c *change) takers() map[api.MsgKind]func(from int, m api.Msg) {
	return map[api.MsgKind]func(from int, m api.Msg){
		api.MsgBeat:      c.takeBeat,
		api.MsgInstalled: c.takeInstalled,
		api.MsgBatch:     c.takeBatch,
	}
}

// take is what becomes of the right message m, of which none of the takers keeps anything but copies.
func (c *change) take(from int, m api.Msg) {
	if taker, ok := c.takers()[m.Kind]; ok {
		taker(from, m)
	}
}

// takeBeat believes what a node tells, if that may be: else the leases are told as they were.
func (c *change) takeBeat(from int, m api.Msg) {
	c.Leases, _, _ = lease.Beat(c.Leases, from, m.Boot, c.Now)
}

func (c *change) takeInstalled(from int, m api.Msg) {
	for i, x := range c.Loads {
		c.Loads[i] = publish.Installed(c.Layout, x, from, m)
	}
	c.settle()
}

func (c *change) takeBatch(_ int, m api.Msg) {
	at, i := c.placeOf(m.Stream)
	if at < 0 || !took(&c.Runs[at].Ins[i], m) {
		return
	}
	r := c.Runs[at]
	c.sendAck(r, r.Ins[i])
	if slices.ContainsFunc(r.Ins, isOpen) {
		return
	}
	c.Runs = slices.Delete(c.Runs, at, at+1)
	c.finish(r)
}

// placeOf is the place of the run that the stream s is of, and that of s in it; below 0, if there is none.
func (c *change) placeOf(s api.Stream) (int, int) {
	for at, r := range c.Runs {
		if c.qid(r) != s.Query || r.Attempt != s.Attempt {
			continue
		}
		if i := slices.IndexFunc(r.Ins, func(in api.In) bool { return in.Stream == s }); i >= 0 {
			return at, i
		}
	}
	return -1, -1
}

// took puts the batch m to i, and tells whether it is there by now.
func took(i *api.In, m api.Msg) bool {
	next, why := stream.Take(*i, m)
	isThere := why == api.OK || why == api.ErrTwice
	// A stream that was made by hand may hold batches beyond the greatest number that there is; past these it would not be right any more, nor would the coordinator.
	if !isThere || stream.CheckIn(next) != api.OK {
		return false
	}
	*i = next
	return true
}
