package world

import (
	"potsherd/api"
	"potsherd/coord"
	"potsherd/worker"
)

// member is a node that is up: something happens to it, and it wants something sent.
type member interface {
	tick() []api.Post
	receive(from int, m api.Msg) []api.Post
}

// leader is the coordinator's node, as a member.
type leader struct{ *api.Coord }

func (l leader) tick() (posts []api.Post) {
	*l.Coord, posts = coord.Tick(*l.Coord)
	return posts
}

func (l leader) receive(from int, m api.Msg) (posts []api.Post) {
	*l.Coord, posts = coord.Receive(*l.Coord, from, m)
	return posts
}

// order is what a coordinator makes of an order: its number, and what it wants sent.
type order func(c api.Coord) (api.Coord, uint64, []api.Post)

func (l leader) take(give order) (n uint64, posts []api.Post) {
	*l.Coord, n, posts = give(*l.Coord)
	return n, posts
}

// follower is a worker's node, as a member.
type follower struct{ *api.Worker }

func (f follower) tick() (posts []api.Post) {
	*f.Worker, posts = worker.Tick(*f.Worker)
	return posts
}

func (f follower) receive(from int, m api.Msg) (posts []api.Post) {
	*f.Worker, posts = worker.Receive(*f.Worker, from, m)
	return posts
}

// memberOf is that node, if there is one, and it is up.
func (c *change) memberOf(node int) (member, bool) {
	switch {
	case !c.isNode(node) || !c.Up[node]:
		return nil, false
	case node == coordinator:
		return leader{&c.Coord}, true
	}
	return follower{&c.Workers[node-1]}, true
}

// let does something with a node, if it is up; what that wants is sent, its new answers are told.
func (c *change) let(node int, do func(m member) []api.Post) {
	m, isUp := c.memberOf(node)
	if !isUp {
		return
	}
	c.send(node, do(m))
	if l, ok := m.(leader); ok {
		c.tell(l)
	}
}

// tell puts the coordinator's answers behind the world's.
func (c *change) tell(l leader) {
	for _, a := range l.Answers {
		c.Answers = append(c.Answers, api.Told{Boot: l.Boot, Answer: a})
	}
	l.Answers = nil
}

// order is the number that the coordinator gives an order; 0, if it is not up, or takes none.
func (c *change) order(give order) (n uint64) {
	c.let(coordinator, func(m member) (posts []api.Post) {
		if l, ok := m.(leader); ok {
			n, posts = l.take(give)
		}
		return posts
	})
	return n
}
