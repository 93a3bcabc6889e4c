package publish

import (
	"iter"
	"slices"

	"potsherd/api"
	"potsherd/place"
	"potsherd/value"
)

// shards yields each shard of the right layout l with its owners, rising; each list is a new one.
func shards(l api.Layout) iter.Seq2[int, []int] {
	return func(yield func(int, []int) bool) {
		for s := range l.Shards {
			owners, _ := place.Owners(l, s)
			if !yield(s, owners) {
				return
			}
		}
	}
}

func isRight(l api.Layout, x api.Load) bool {
	if place.Check(l) != api.OK || value.CheckTable(x.Table) != api.OK || len(x.Acks) != l.Shards {
		return false
	}
	for s, owners := range shards(l) {
		if !areAcks(x.Acks[s], owners) {
			return false
		}
	}
	return true
}

// areAcks tells whether acks rise, and are of owners alone.
func areAcks(acks, owners []int) bool {
	last := 0
	for _, node := range acks {
		if node <= last || !slices.Contains(owners, node) {
			return false
		}
		last = node
	}
	return true
}

// without is a new list of those of owners that are not among acks.
func without(owners, acks []int) []int {
	return slices.DeleteFunc(slices.Clone(owners), func(node int) bool { return slices.Contains(acks, node) })
}

// install is the message by which a shard of x is brought to a node.
func install(x api.Load, shard int, rows []api.Row) api.Msg {
	f := api.File{Table: x.Table.Name, Version: x.Version, Shard: shard, Cols: x.Table.Cols, Rows: rows}
	return api.Msg{Kind: api.MsgInstall, File: f}
}

// isKept tells whether m says that a shard of the right load x is kept by the node from, which is to keep it.
func isKept(l api.Layout, x api.Load, from int, m api.Msg) bool {
	if m.Kind != api.MsgInstalled || m.File.Table != x.Table.Name || m.File.Version != x.Version {
		return false
	}
	owners, why := place.Owners(l, m.File.Shard)
	return why == api.OK && slices.Contains(owners, from)
}
