package worker

import (
	"potsherd/api"
	"potsherd/stream"
)

// coordinator is the coordinator's node.
const coordinator = 0

// atCoordinator is what a stream has in the place of a fragment at its end that is the coordinator's.
const atCoordinator = -1

// nodeOf is the node of that fragment of t's query, if it is somewhere.
func nodeOf(t *api.Task, frag int) (int, bool) {
	if frag == atCoordinator {
		return coordinator, true
	}
	if frag < 0 || frag >= len(t.Nodes) {
		return 0, false
	}
	node := t.Nodes[frag]
	return node, node >= 0 && node < api.MaxNodes
}

func (c *change) send(to int, m api.Msg) {
	c.posts = append(c.posts, api.Post{To: to, Msg: m})
}

// sendTo sends messages to a fragment of t's query, if it is somewhere.
func (c *change) sendTo(t *api.Task, frag int, messages ...api.Msg) {
	node, ok := nodeOf(t, frag)
	if !ok {
		return
	}
	for _, m := range messages {
		c.send(node, m)
	}
}

// sendOut sends what is under way of a stream of t.
func (c *change) sendOut(t *api.Task, o api.Out) {
	batches, _ := stream.Send(o)
	c.sendTo(t, o.Stream.To, batches...)
}

// sendAll sends what is under way of t.
func (c *change) sendAll(t *api.Task) {
	for _, o := range t.Outs {
		c.sendOut(t, o)
	}
}
