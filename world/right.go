package world

import (
	"potsherd/api"
	"potsherd/coord"
	"potsherd/disk"
	"potsherd/net"
	"potsherd/place"
	"potsherd/worker"
)

func isRight(w api.World) bool {
	l := w.Coord.Layout
	if place.Check(l) != api.OK || len(w.Workers) != l.Nodes-1 || len(w.Up) != l.Nodes || net.Check(w.Net) != api.OK {
		return false
	}
	for i, x := range w.Workers {
		if x.Id != i+1 || !mayBeWorker(x, w.Up[i+1]) {
			return false
		}
	}
	return mayBeCoord(w.Coord, w.Up[coordinator])
}

// mayBeCoord tells whether c may be the coordinator; its layout is right.
func mayBeCoord(c api.Coord, isUp bool) bool {
	if isUp {
		return coord.Check(c) == api.OK && len(c.Answers) == 0
	}
	return isBareCoord(c) && disk.Check(c.Disk) == api.OK
}

// isBareCoord tells whether c has nothing but its layout and its disk.
func isBareCoord(c api.Coord) bool {
	lists := len(c.Leases.Boots) + len(c.Leases.Seen) + len(c.Claims) + len(c.Runs) + len(c.Loads) + len(c.Answers)
	return lists == 0 && c.Boot == 0 && c.Now == 0 && c.Last == 0
}

// mayBeWorker tells whether x may be a worker, whatever its number.
func mayBeWorker(x api.Worker, isUp bool) bool {
	if isUp {
		return worker.Check(x) == api.OK
	}
	return isBareWorker(x) && disk.Check(x.Disk) == api.OK
}

// isBareWorker tells whether x has nothing but its number and its disk.
func isBareWorker(x api.Worker) bool {
	return len(x.Tasks)+len(x.Over.Ids) == 0 && x.Boot == 0 && x.Now == 0
}
