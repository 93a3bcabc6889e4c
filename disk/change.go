package disk

import "potsherd/api"

// change is a step, and the files that it is done with: each kind makes other files of them, or tells why not. The files themselves stay as they are, as the power may go.
type change struct {
	files []api.DiskFile
	step  api.DiskStep
}

// changesOf are all kinds of them.
func changesOf(files []api.DiskFile, s api.DiskStep) map[api.DiskKind]func() ([]api.DiskFile, api.Errno) {
	c := change{files, s}
	return map[api.DiskKind]func() ([]api.DiskFile, api.Errno){
		api.DiskPut:  c.put,
		api.DiskSync: c.sync,
		api.DiskMove: c.move,
		api.DiskDrop: c.drop,
	}
}

func (c change) put() ([]api.DiskFile, api.Errno) {
	if c.step.Name == "" {
		return nil, api.ErrUnknown
	}
	others := without(c.files, c.step.Name)
	if len(c.step.Data) > api.MaxDisk-size(others) {
		return nil, api.ErrFull
	}
	return with(others, api.DiskFile{Name: c.step.Name, Data: c.step.Data}), api.OK
}

func (c change) sync() ([]api.DiskFile, api.Errno) {
	f, ok := find(c.files, c.step.Name)
	if !ok {
		return nil, api.ErrUnknown
	}
	f.Synced = len(f.Data)
	return with(c.files, f), api.OK
}

func (c change) move() ([]api.DiskFile, api.Errno) {
	f, ok := find(c.files, c.step.Name)
	if !ok || c.step.To == "" {
		return nil, api.ErrUnknown
	}
	f.Name = c.step.To
	return with(without(c.files, c.step.Name), f), api.OK
}

func (c change) drop() ([]api.DiskFile, api.Errno) {
	if _, ok := find(c.files, c.step.Name); !ok {
		return nil, api.ErrUnknown
	}
	return without(c.files, c.step.Name), api.OK
}
