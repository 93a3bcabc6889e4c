package coord

import (
	"slices"

	"potsherd/api"
	"potsherd/exec"
	"potsherd/plan"
	"potsherd/stream"
)

// atCoordinator is what a stream has in the place of a fragment at its end that is the coordinator's.
const atCoordinator = -1

func (c *change) qid(r api.Run) api.Qid { return api.Qid{Boot: c.Boot, N: r.N} }

// begun is r in its next attempt, the Starts of which are sent; it stops, if there can be none.
func (c *change) begun(r api.Run) api.Run {
	r.Attempt++
	if r.Attempt > api.MaxAttempts {
		panic(api.ErrUnavailable)
	}
	r.Frags = must(plan.Make(r.Bound, c.Layout, r.Claims, c.alive()))
	r.Boots, r.Ins = nil, nil
	for _, f := range r.Frags {
		r.Boots = append(r.Boots, c.Leases.Boots[f.Node])
		if len(f.To) == 0 {
			s := api.Stream{Query: c.qid(r), Attempt: r.Attempt, From: f.Id, To: atCoordinator}
			r.Ins = append(r.Ins, api.In{Stream: s})
		}
	}
	c.sendStarts(r)
	return r
}

func (c *change) sendStarts(r api.Run) {
	catalog := plan.Catalog(r.Claims)
	s := api.Stream{Query: c.qid(r), Attempt: r.Attempt}
	var nodes []int
	for _, f := range r.Frags {
		nodes = append(nodes, f.Node)
	}
	for _, f := range r.Frags {
		c.send(f.Node, api.Msg{Kind: api.MsgStart, Stream: s, Bound: r.Bound, Catalog: catalog, Frag: f, Nodes: nodes})
	}
}

// sendAck tells the node that sends the stream i of r how much of it came. A run that was made by hand may have a stream of no fragment: nobody is told then.
func (c *change) sendAck(r api.Run, i api.In) {
	if from := i.Stream.From; from >= 0 && from < len(r.Frags) {
		c.send(r.Frags[from].Node, stream.Ack(i))
	}
}

// isOpen tells whether some of i is missing still.
func isOpen(i api.In) bool { return !i.Done }

// isBroken tells whether a node of r went, or was opened anew, since r's attempt began: what it had of r is lost.
func (c *change) isBroken(r api.Run) bool {
	alive := c.alive()
	for i, f := range r.Frags {
		if !alive[f.Node] || c.Leases.Boots[f.Node] != r.Boots[i] {
			return true
		}
	}
	return false
}

// finish answers r, all of whose streams came, and which is no more among the runs.
func (c *change) finish(r api.Run) {
	var all []api.Row
	for _, i := range r.Ins {
		all = append(all, i.Rows...)
	}
	a := api.Answer{N: r.N}
	a.Why = stopped(func() {
		a.Rows = must(exec.Finish(r.Bound, plan.Catalog(r.Claims), all))
		a.Names = slices.Clone(r.Bound.Names)
	})
	c.end(r, a)
}

// end answers r, which is no more among the runs, and has the workers forget it, if they may have heard of it.
func (c *change) end(r api.Run, a api.Answer) {
	c.answer(a)
	if len(r.Frags) == 0 {
		return
	}
	for node := 1; node < c.Layout.Nodes; node++ {
		c.send(node, api.Msg{Kind: api.MsgClean, Stream: api.Stream{Query: c.qid(r)}})
	}
}
