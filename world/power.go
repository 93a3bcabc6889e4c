package world

import (
	"potsherd/api"
	"potsherd/coord"
	"potsherd/disk"
	"potsherd/worker"
)

// diskOf is the disk of a node that is there, whether it is up or not.
func (c *change) diskOf(node int) *api.Disk {
	if node == coordinator {
		return &c.Coord.Disk
	}
	return &c.Workers[node-1].Disk
}

// left is what the power leaves of a node's disk, which is right, as the world is.
func (c *change) left(node, keep int) api.Disk {
	d, _ := disk.Crash(*c.diskOf(node), keep)
	return d
}

// start opens a node with the disk d. If that fails, the node is not up, and has what Start tells beside the error: nothing but a disk.
func (c *change) start(node int, d api.Disk) (why api.Errno) {
	if node == coordinator {
		c.Coord, why = coord.Start(c.Coord.Layout, d)
	} else {
		c.Workers[node-1], why = worker.Start(node, d)
	}
	c.Up[node] = why == api.OK
	return why
}

// stop takes all from a node but the disk d.
func (c *change) stop(node int, d api.Disk) {
	if node == coordinator {
		c.Coord = api.Coord{Layout: c.Coord.Layout, Disk: d}
	} else {
		c.Workers[node-1] = api.Worker{Id: node, Disk: d}
	}
	c.Up[node] = false
}

func (c *change) crash(node, keep int) api.Errno {
	if !c.isNode(node) {
		return api.ErrRange
	}
	if !c.Up[node] {
		return api.ErrState
	}
	c.stop(node, c.left(node, keep))
	return api.OK
}

// restart lets the power of a node's disk come first: a fuse that was set before is none any more.
func (c *change) restart(node int) api.Errno {
	if !c.isNode(node) {
		return api.ErrRange
	}
	if c.Up[node] {
		return api.ErrState
	}
	return c.start(node, c.left(node, 0))
}

func (c *change) fuse(node, fuse int) api.Errno {
	if !c.isNode(node) {
		return api.ErrRange
	}
	c.diskOf(node).Fuse = fuse
	return api.OK
}
