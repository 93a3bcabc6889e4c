package lease

import "potsherd/api"

// coordinator is the node that need not tell that it is there.
const coordinator = 0

// mayBe tells whether there may be so many nodes: the coordinator's, and a worker at least.
func mayBe(nodes int) bool { return nodes >= 2 && nodes <= api.MaxNodes }

// refuse tells why what a node told is not believed.
func refuse(l api.Leases, node int, boot, now uint64) api.Errno {
	switch {
	case node <= coordinator || node >= len(l.Boots) || boot == 0:
		return api.ErrRange
	case boot < l.Boots[node] || boot == l.Boots[node] && now < l.Seen[node]:
		return api.ErrStale
	}
	return api.OK
}

// isAlive takes a time from another only where it is not above it, as the difference would wrap round.
func isAlive(l api.Leases, node int, now uint64) bool {
	if node == coordinator {
		return true
	}
	boot, seen := l.Boots[node], l.Seen[node]
	return boot != 0 && seen <= now && now-seen < api.LeaseTicks
}
