// Package fresh has new memory of what calls hand on: an answer shares none with what was handed in, and a text is memory, too. Each call is a thing just like the one that it is given, whether that is right or not; its empty lists are nil.
//
// fresh.go has disks, and how lists are gone through; message.go has messages, row.go tables and their rows, stream.go streams, worker.go workers, coord.go coordinators and what they have under way, world.go worlds.
package fresh

import (
	"slices"
	"strings"

	"potsherd/api"
)

// Disk is d in new memory.
func Disk(d api.Disk) api.Disk {
	d.Files = each(d.Files, diskFile)
	return d
}

func diskFile(f api.DiskFile) api.DiskFile {
	f.Name = strings.Clone(f.Name)
	f.Data = strings.Clone(f.Data)
	return f
}

// each is a new list of what part makes of each one of l.
func each[T any](l []T, part func(T) T) []T {
	all := slices.Grow([]T(nil), len(l))
	for _, x := range l {
		all = append(all, part(x))
	}
	return all
}

// plain is a new list of things that have no memory of their own.
func plain[T any](l []T) []T { return append([]T(nil), l...) }
