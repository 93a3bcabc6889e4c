package worker

import (
	"slices"

	"potsherd/api"
	"potsherd/files"
	"potsherd/rpc"
	"potsherd/stream"
)

// takers are what becomes of a message, by its kind.
func (c *change) takers() map[api.MsgKind]func(from int, m api.Msg) {
	return map[api.MsgKind]func(from int, m api.Msg){
		api.MsgStart:   c.takeStart,
		api.MsgBatch:   c.takeBatch,
		api.MsgAck:     c.takeAck,
		api.MsgClean:   c.takeClean,
		api.MsgInstall: c.takeInstall,
	}
}

// take is what becomes of the right message m, whose memory is the change's.
func (c *change) take(from int, m api.Msg) {
	if taker, ok := c.takers()[m.Kind]; ok {
		taker(from, m)
	}
}

func (c *change) takeStart(from int, m api.Msg) {
	if from != coordinator || !c.mayStart(m) {
		return
	}
	q, attempt := m.Stream.Query, m.Stream.Attempt
	c.forget(func(t api.Task) bool { return t.Query == q && t.Attempt < attempt })
	isThere := c.task(q, attempt, m.Frag.Id) >= 0
	if !isThere && len(c.Tasks) >= api.MaxTasks {
		return
	}
	c.send(coordinator, api.Msg{Kind: api.MsgStarted, Stream: api.Stream{Query: q, Attempt: attempt, From: m.Frag.Id}})
	if isThere {
		c.hear(q)
		return
	}
	c.begin(m)
}

// mayStart tells whether the fragment of the Start m is this worker's, and of an attempt that is not over.
func (c *change) mayStart(m api.Msg) bool {
	q, attempt := m.Stream.Query, m.Stream.Attempt
	isLater := func(t api.Task) bool { return t.Query == q && t.Attempt > attempt }
	return m.Frag.Node == c.Id && isFrag(m.Frag.Id) && !rpc.Has(c.Over, q) && !slices.ContainsFunc(c.Tasks, isLater)
}

// begin puts the task of the Start m behind all, and runs it, if it may be run.
func (c *change) begin(m api.Msg) {
	t := api.Task{Query: m.Stream.Query, Attempt: m.Stream.Attempt, Bound: m.Bound, Catalog: m.Catalog, Frag: m.Frag, Nodes: m.Nodes, Seen: c.Now}
	for _, from := range once(m.Frag.Left.Frags, m.Frag.Right.Frags) {
		s := api.Stream{Query: t.Query, Attempt: t.Attempt, From: from, To: t.Frag.Id}
		t.Ins = append(t.Ins, api.In{Stream: s})
	}
	c.run(&t)
	c.sendAll(&t)
	c.Tasks = append(c.Tasks, t)
}

func (c *change) takeBatch(_ int, m api.Msg) {
	s := m.Stream
	at := c.task(s.Query, s.Attempt, s.To)
	if at < 0 {
		return
	}
	t := &c.Tasks[at]
	i := slices.IndexFunc(t.Ins, func(in api.In) bool { return in.Stream == s })
	if i < 0 || !took(&t.Ins[i], m) {
		return
	}
	c.hear(s.Query)
	c.sendTo(t, s.From, stream.Ack(t.Ins[i]))
	if c.run(t) {
		c.sendAll(t)
	}
}

// took puts the batch m to i, and tells whether it is there by now.
func took(i *api.In, m api.Msg) bool {
	next, why := stream.Take(*i, m)
	isThere := why == api.OK || why == api.ErrTwice
	// A stream that was made by hand may hold batches beyond the greatest number that there is; past these it would not be right any more, nor would the worker.
	if !isThere || stream.CheckIn(next) != api.OK {
		return false
	}
	*i = next
	return true
}

func (c *change) takeAck(_ int, m api.Msg) {
	s := m.Stream
	at := c.task(s.Query, s.Attempt, s.From)
	if at < 0 {
		return
	}
	t := &c.Tasks[at]
	i := slices.IndexFunc(t.Outs, func(o api.Out) bool { return o.Stream == s })
	if i < 0 {
		return
	}
	before := t.Outs[i].Acked
	t.Outs[i] = stream.Acked(t.Outs[i], s, m.Seq)
	c.hear(s.Query)
	if t.Outs[i].Acked > before {
		c.sendOut(t, t.Outs[i])
	}
}

func (c *change) takeClean(from int, m api.Msg) {
	if from != coordinator {
		return
	}
	q := m.Stream.Query
	c.forget(func(t api.Task) bool { return t.Query == q })
	c.Over, _ = rpc.Put(c.Over, q)
}

func (c *change) takeInstall(from int, m api.Msg) {
	if from != coordinator {
		return
	}
	d, why := files.Install(c.Disk, m.File)
	c.Disk = d
	if why != api.OK {
		return
	}
	kept := m.File
	kept.Rows = nil
	c.send(coordinator, api.Msg{Kind: api.MsgInstalled, File: kept})
}
