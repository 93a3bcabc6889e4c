package worker

import (
	"math"
	"slices"

	"potsherd/api"
	"potsherd/fresh"
	"potsherd/stream"
)

// change is a worker that something happens to, in new memory, and what it wants sent by now.
type change struct {
	api.Worker
	posts []api.Post
}

// changeOf is the change of w, and whether anything may happen to it; it is of nothing, if w is not right.
func changeOf(w api.Worker) (*change, bool) {
	if !isRight(w) {
		return &change{}, false
	}
	return &change{Worker: fresh.Worker(w)}, !w.Disk.Down
}

// task is the place of the task of that fragment; below 0, if there is none.
func (c *change) task(q api.Qid, attempt, frag int) int {
	return slices.IndexFunc(c.Tasks, isLike(api.Task{Query: q, Attempt: attempt, Frag: api.Frag{Id: frag}}))
}

// hear marks all tasks of the query q as heard of now.
func (c *change) hear(q api.Qid) {
	for i := range c.Tasks {
		if c.Tasks[i].Query == q {
			c.Tasks[i].Seen = c.Now
		}
	}
}

// forget takes the tasks away that isOut tells.
func (c *change) forget(isOut func(t api.Task) bool) {
	c.Tasks = slices.DeleteFunc(c.Tasks, isOut)
}

// tick lets a tick go by.
func (c *change) tick() {
	if c.Now < math.MaxUint64 {
		c.Now++
	}
	c.forget(func(t api.Task) bool { return c.Now-t.Seen >= api.LeaseTicks })
	c.send(coordinator, api.Msg{Kind: api.MsgBeat, Boot: c.Boot})
	for i := range c.Tasks {
		t := &c.Tasks[i]
		c.askOn(t)
		c.run(t)
		c.sendAll(t)
	}
}

// askOn tells those whose streams have not all come how much did, as what they sent, or what was told them, may be lost.
func (c *change) askOn(t *api.Task) {
	for _, in := range t.Ins {
		if !in.Done {
			c.sendTo(t, in.Stream.From, stream.Ack(in))
		}
	}
}
