package files

import (
	"slices"

	"potsherd/api"
	"potsherd/disk"
	"potsherd/fresh"
	"potsherd/wire"
)

// usable is d in new memory, and why nothing is done with it.
func usable(d api.Disk) (api.Disk, api.Errno) {
	if why := disk.Check(d); why != api.OK {
		return api.Disk{}, why
	}
	d = fresh.Disk(d)
	if d.Down {
		return d, api.ErrDown
	}
	return d, api.OK
}

// do hands steps on one by one; behind the first that is refused none is done.
func do(d api.Disk, steps ...api.DiskStep) (api.Disk, api.Errno) {
	for _, s := range steps {
		next, why := disk.Do(d, s)
		if why != api.OK {
			return next, why
		}
		d = next
	}
	return d, api.OK
}

// keep is the disk that has these bytes under a name. As the name is given last, the power finds there what was there, or all of the bytes, and these safe.
func keep(d api.Disk, name, bytes string) (api.Disk, api.Errno) {
	return do(d,
		api.DiskStep{Kind: api.DiskPut, Name: newName, Data: bytes},
		api.DiskStep{Kind: api.DiskSync, Name: newName},
		api.DiskStep{Kind: api.DiskMove, Name: newName, To: name},
	)
}

// isSafe tells whether just these bytes are under a name, and the power leaves them all there.
func isSafe(d api.Disk, name, bytes string) bool {
	return slices.Contains(d.Files, api.DiskFile{Name: name, Data: bytes, Synced: len(bytes)})
}

// dropNew is the disk without what the power broke off.
func dropNew(d api.Disk) (api.Disk, api.Errno) {
	_, why := disk.Read(d, newName)
	if why == api.ErrUnknown {
		return d, api.OK
	}
	return do(d, api.DiskStep{Kind: api.DiskDrop, Name: newName})
}

// read is the message of a kind that is kept under a name: ErrWire, if something else is there.
func read(d api.Disk, name string, kind api.MsgKind) (api.Msg, api.Errno) {
	bytes, why := disk.Read(d, name)
	if why != api.OK {
		return api.Msg{}, why
	}
	m, why := wire.Read(bytes)
	if why != api.OK || m.Kind != kind {
		return api.Msg{}, api.ErrWire
	}
	return m, api.OK
}
