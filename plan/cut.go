package plan

import (
	"slices"
	"strings"

	"potsherd/api"
)

// side is a table of the query: its claim, and the node that was picked for each of its shards.
type side struct {
	claim api.Claim
	nodes []int
}

// maker makes the fragment of that Id, which is set by who asks for it.
type maker func(id int) api.Frag

// oneByOne is the first n fragments.
func oneByOne(n int, made maker) []api.Frag {
	var frags []api.Frag
	for id := range n {
		f := made(id)
		f.Id = id
		frags = append(frags, f)
	}
	return frags
}

// alone makes the fragments of a query of one table.
func alone(t side) maker {
	return func(s int) api.Frag {
		return api.Frag{Node: t.nodes[s], Left: shardOf(t.claim, s)}
	}
}

// sideBySide makes those that join the shards of two tables where both lie.
func sideBySide(t, u side, nodes []int) maker {
	return func(s int) api.Frag {
		return api.Frag{Node: nodes[s], Left: shardOf(t.claim, s), Right: shardOf(u.claim, s)}
	}
}

// broadcast makes one that sends u's only shard to where t's is, and the one that joins them there.
func broadcast(t, u side) maker {
	return func(id int) api.Frag {
		if id == 0 {
			return api.Frag{Node: u.nodes[0], Left: shardOf(u.claim, 0), Raw: true, By: -1, To: upTo(1, 2)}
		}
		return api.Frag{Node: t.nodes[0], Left: shardOf(t.claim, 0), Right: sentBy(0, 1)}
	}
}

// shuffled makes those that send t's shards and u's by the hash of what is joined by, and behind them those that join what comes.
func shuffled(b api.Bound, t, u side, live []int) maker {
	shards := len(t.nodes)
	sending := func(from side, s, by int) api.Frag {
		return api.Frag{Node: from.nodes[s], Left: shardOf(from.claim, s), Raw: true, By: by, To: upTo(2*shards, 3*shards)}
	}
	return func(id int) api.Frag {
		s := id % shards
		switch id / shards {
		case 0:
			return sending(t, s, b.Left)
		case 1:
			return sending(u, s, b.Right)
		}
		return api.Frag{Node: inTurn(live, s), Left: sentBy(0, shards), Right: sentBy(shards, 2*shards)}
	}
}

func shardOf(c api.Claim, shard int) api.Src {
	return api.Src{Kind: api.SrcShard, Table: strings.Clone(c.Table), Version: c.Version, Shard: shard}
}

// sentBy is what the fragments from first on, and ahead of end, send.
func sentBy(first, end int) api.Src {
	return api.Src{Kind: api.SrcFrags, Frags: upTo(first, end)}
}

// upTo is a new list each time, so that no two fragments share one.
func upTo(first, end int) []int {
	var ids []int
	for id := first; id < end; id++ {
		ids = append(ids, id)
	}
	return ids
}

// together is for each shard a live worker that owns it in both claims; none at all, if a shard has none.
func together(t, u api.Claim, live []int) []int {
	var nodes []int
	for s, owners := range t.Owners {
		here := both(both(owners, u.Owners[s]), live)
		if len(here) == 0 {
			return nil
		}
		nodes = append(nodes, inTurn(here, s))
	}
	return nodes
}

// both is what a and b have both, in a's order.
func both[T comparable](a, b []T) []T {
	return slices.DeleteFunc(slices.Clone(a), func(x T) bool { return !slices.Contains(b, x) })
}

// inTurn spreads shards over workers, of which there is at least one.
func inTurn(workers []int, shard int) int { return workers[shard%len(workers)] }
