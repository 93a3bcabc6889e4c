package coord

import (
	"potsherd/api"
	"potsherd/fresh"
	"potsherd/lease"
)

// change is a coordinator that something happens to, in new memory, and what it wants sent by now.
type change struct {
	api.Coord
	posts []api.Post
}

// changeOf is the change of c, and whether anything may happen to it; it is of nothing, if c is not right.
func changeOf(c api.Coord) (*change, bool) {
	if !isRight(c) {
		return &change{}, false
	}
	return &change{Coord: fresh.Coord(c)}, !c.Disk.Down
}

// send hands on new memory, as what a message is made of stays with the coordinator.
func (c *change) send(to int, m api.Msg) {
	c.posts = append(c.posts, api.Post{To: to, Msg: fresh.Msg(m)})
}

func (c *change) answer(a api.Answer) {
	c.Answers = append(c.Answers, a)
}

// alive tells of each node whether it is believed to be there now; the leases are right.
func (c *change) alive() []bool {
	alive, _ := lease.Alive(c.Leases, c.Now)
	return alive
}
