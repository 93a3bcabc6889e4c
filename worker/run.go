package worker

import (
	"slices"

	"potsherd/api"
	"potsherd/exec"
	"potsherd/files"
	"potsherd/stream"
)

// run runs t, if it may be run, and tells whether it was.
func (c *change) run(t *api.Task) bool {
	if t.Ran || slices.ContainsFunc(t.Ins, isOpen) {
		return false
	}
	lists, ok := c.made(t)
	if !ok {
		return false
	}
	outs, ok := streamsOf(t, lists)
	if !ok {
		return false
	}
	t.Outs, t.Ran = outs, true
	return true
}

// isOpen tells whether some of i is missing still.
func isOpen(i api.In) bool { return !i.Done }

// made is what t's fragment makes of its sources' rows, if these are there.
func (c *change) made(t *api.Task) ([][]api.Row, bool) {
	left, ok := c.rows(t, t.Frag.Left)
	if !ok {
		return nil, false
	}
	right, ok := c.rows(t, t.Frag.Right)
	if !ok {
		return nil, false
	}
	lists, why := exec.Run(t.Bound, t.Catalog, t.Frag, left, right)
	return lists, why == api.OK
}

// rows are those of a source of t, and whether it is there.
func (c *change) rows(t *api.Task, s api.Src) ([]api.Row, bool) {
	switch s.Kind {
	case api.SrcShard:
		f, ok := files.Find(c.Disk, s.Table, s.Version, s.Shard)
		return f.Rows, ok
	case api.SrcFrags:
		return received(t, s.Frags), true
	}
	return nil, true
}

// received are the rows that those fragments sent, one behind the other. A fragment that is named twice sent them once.
func received(t *api.Task, frags []int) []api.Row {
	var rows []api.Row
	for _, f := range once(frags) {
		for _, in := range t.Ins {
			if in.Stream.From == f {
				rows = append(rows, in.Rows...)
			}
		}
	}
	return rows
}

// once is a new list of the numbers of all these lists, each where it comes first.
func once(lists ...[]int) []int {
	var l []int
	for _, n := range slices.Concat(lists...) {
		if !slices.Contains(l, n) {
			l = append(l, n)
		}
	}
	return l
}

// streamsOf are the streams of what t made: to each fragment that it sends to, or to the coordinator. There are none, if one would be too long.
func streamsOf(t *api.Task, lists [][]api.Row) ([]api.Out, bool) {
	to := t.Frag.To
	if len(to) == 0 {
		to = []int{atCoordinator}
	}
	var outs []api.Out
	for place, frag := range to {
		s := api.Stream{Query: t.Query, Attempt: t.Attempt, From: t.Frag.Id, To: frag}
		o, why := stream.Cut(s, listAt(lists, place))
		if why != api.OK {
			return nil, false
		}
		outs = append(outs, o)
	}
	return outs, true
}

// listAt is the list at a place; a fragment that makes one list, and is said to send to several, has none for the others.
func listAt(lists [][]api.Row, place int) []api.Row {
	if place >= len(lists) {
		return nil
	}
	return lists[place]
}
