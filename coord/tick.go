package coord

import (
	"math"

	"potsherd/api"
)

// tick lets a tick go by.
func (c *change) tick() {
	if c.Now < math.MaxUint64 {
		c.Now++
	}
	runs := c.Runs
	c.Runs = nil
	for _, r := range runs {
		c.goOn(r)
	}
	c.settle()
	if c.Disk.Down {
		return
	}
	for _, x := range c.Loads {
		c.bring(x)
	}
}

// goOn puts r to the runs again, in another attempt, if this one can't come to an end any more; without one it is answered.
func (c *change) goOn(r api.Run) {
	why := stopped(func() {
		if c.isBroken(r) {
			c.Runs = append(c.Runs, c.begun(r))
			return
		}
		c.repeat(r)
		c.Runs = append(c.Runs, r)
	})
	if why != api.OK {
		c.end(r, api.Answer{N: r.N, Why: why})
	}
}

// repeat tells all nodes of r again what they were told, as that, or what they sent, may be lost.
func (c *change) repeat(r api.Run) {
	c.sendStarts(r)
	for _, i := range r.Ins {
		if isOpen(i) {
			c.sendAck(r, i)
		}
	}
}
