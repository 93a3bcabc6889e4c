package exec

import (
	"iter"
	"maps"
	"slices"

	"potsherd/api"
	"potsherd/value"
)

// group is what is known of rows whose values at the Group's columns are alike.
type group struct {
	values api.Row
	parts  []part // one for each item
}

// key tells groups apart: values that are right are alike just if all their fields are.
type key [api.MaxItems]api.Value

func (g group) key() (k key) {
	copy(k[:], g.values)
	return k
}

// row is the group's row.
func (g group) row() api.Row {
	row := slices.Clone(g.values)
	for _, p := range g.parts {
		row = append(row, p.values()...)
	}
	return row
}

// ofRow is the group that the row is alone.
func (q query) ofRow(row api.Row) group {
	g := q.ofNone()
	for _, column := range q.Group {
		g.values = append(g.values, row[column])
	}
	g.values = copyRow(g.values)
	for i, item := range q.Items {
		g.parts[i] = q.partOf(item, row)
	}
	return g
}

// ofNone is a group of no rows, whose values are yet to come.
func (q query) ofNone() group { return group{parts: make([]part, len(q.Items))} }

// ofSent is what a right group's row tells.
func (q query) ofSent(r api.Row) group {
	g := q.ofNone()
	g.values = r[:len(q.Group)]
	for i := range q.Items {
		g.parts[i] = partIn(q.ofItem(r, i))
	}
	return g
}

// ofItem is those values of a group's row that tell of the item.
func (q query) ofItem(r api.Row, item int) []api.Value {
	first := len(q.Group) + perItem*item
	return r[first : first+perItem]
}

// gather puts together what is told of one group, and yields the groups by their values; without Group's columns there is one, even of no rows.
func (q query) gather(told iter.Seq[group]) iter.Seq[group] {
	known := map[key]group{}
	if len(q.Group) == 0 {
		known[key{}] = q.ofNone()
	}
	for g := range told {
		k := g.key()
		if before, there := known[k]; there {
			q.add(before.parts, g.parts)
		} else {
			known[k] = g
		}
	}
	return slices.Values(slices.SortedFunc(maps.Values(known), func(a, b group) int { return value.CompareRows(a.values, b.values) }))
}

// add puts more to what is known, item by item, on the spot.
func (q query) add(known, more []part) {
	for i, item := range q.Items {
		known[i] = known[i].with(more[i], item.Agg)
	}
}

// told is the answer's row of a group.
func (q query) told(g group) api.Row {
	row := make(api.Row, len(q.Items))
	for i, item := range q.Items {
		if item.Agg == api.AggNone {
			// It is a column of the Group.
			row[i] = g.values[slices.Index(q.Group, int(item.Expr[0].N))]
		} else {
			row[i] = g.parts[i].told(item.Agg)
		}
	}
	return row
}

// areSent tells whether fragments may send these rows to the coordinator.
func (q query) areSent(rows []api.Row) bool {
	return areRows(rows, q.sentCols()) && !(q.Grouped && slices.ContainsFunc(rows, func(r api.Row) bool { return !q.isGroupRow(r) }))
}

// sentCols are the columns of what fragments send, whose names are no matter.
func (q query) sentCols() []api.Col {
	var cols []api.Col
	for _, column := range q.Group {
		cols = append(cols, q.cols[column])
	}
	for _, k := range q.Kinds {
		if q.Grouped {
			cols = append(cols, slices.Repeat([]api.Col{{Kind: api.KindInt}}, perItem-1)...)
		}
		cols = append(cols, api.Col{Kind: k})
	}
	return cols
}

// isGroupRow tells whether r, whose values are of the right kinds or null, tells of each item what may be.
func (q query) isGroupRow(r api.Row) bool {
	for i, item := range q.Items {
		values := q.ofItem(r, i)
		if slices.ContainsFunc(values[:perItem-1], isNull) || !partIn(values).isRight(item.Agg) {
			return false
		}
	}
	return true
}
