package world

import (
	"potsherd/api"
	"potsherd/fresh"
	"potsherd/net"
	"potsherd/wire"
)

// coordinator is the coordinator's node.
const coordinator = 0

// change is a world that something happens to, in new memory.
type change struct{ api.World }

// changed is w behind what do does to it, and why that was not done; nothing, if w is not right.
func changed(w api.World, do func(c *change) api.Errno) (api.World, api.Errno) {
	if why := Check(w); why != api.OK {
		return api.World{}, why
	}
	c := &change{fresh.World(w)}
	why := do(c)
	return c.World, why
}

// ordered is w once the coordinator is given an order, and that one's number; ErrDown, if it gives it none.
func ordered(w api.World, give order) (api.World, uint64, api.Errno) {
	var n uint64
	w, why := changed(w, func(c *change) api.Errno {
		n = c.order(give)
		if n == 0 {
			return api.ErrDown
		}
		return api.OK
	})
	return w, n, why
}

func (c *change) isNode(node int) bool { return node >= 0 && node < len(c.Up) }

// send puts what a node wants sent on the net. A message that has no text, or that the net refuses, is lost: the net is told as it was then.
func (c *change) send(from int, posts []api.Post) {
	for _, p := range posts {
		text, why := wire.Write(p.Msg)
		if why == api.OK {
			c.Net, _ = net.Send(c.Net, from, p.To, text)
		}
	}
}

func (c *change) tick() api.Errno {
	for node := range c.Up {
		c.let(node, member.tick)
	}
	return api.OK
}

func (c *change) deliver(i int) api.Errno {
	left, p, why := net.Deliver(c.Net, i)
	if why != api.OK {
		return why
	}
	c.Net = left
	if m, why := wire.Read(p.Text); why == api.OK {
		c.let(p.To, func(x member) []api.Post { return x.receive(p.From, m) })
	}
	return api.OK
}

func (c *change) drop(i int) (why api.Errno) {
	c.Net, why = net.Drop(c.Net, i)
	return why
}

func (c *change) double(i int) (why api.Errno) {
	c.Net, why = net.Copy(c.Net, i)
	return why
}
