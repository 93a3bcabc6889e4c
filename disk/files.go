package disk

import (
	"cmp"
	"slices"
	"strings"

	"potsherd/api"
)

// areFiles tells whether a disk may have these: by name, each with a name of its own, and not too much of them.
func areFiles(files []api.DiskFile) bool {
	last, room := "", api.MaxDisk
	for _, f := range files {
		if f.Name <= last || f.Synced < 0 || f.Synced > len(f.Data) || len(f.Data) > room {
			return false
		}
		last = f.Name
		room -= len(f.Data)
	}
	return true
}

// size is how many bytes all of them have.
func size(files []api.DiskFile) int {
	n := 0
	for _, f := range files {
		n += len(f.Data)
	}
	return n
}

func byName(f api.DiskFile, name string) int { return cmp.Compare(f.Name, name) }

// find is the file that is called name.
func find(files []api.DiskFile, name string) (api.DiskFile, bool) {
	i, ok := slices.BinarySearchFunc(files, name, byName)
	if !ok {
		return api.DiskFile{}, false
	}
	return files[i], true
}

// with is a new list of f, and of those that are called otherwise.
func with(files []api.DiskFile, f api.DiskFile) []api.DiskFile {
	others := without(files, f.Name)
	i, _ := slices.BinarySearchFunc(others, f.Name, byName)
	return slices.Insert(others, i, f)
}

// without is a new list of those that are called otherwise.
func without(files []api.DiskFile, name string) []api.DiskFile {
	return slices.DeleteFunc(slices.Clone(files), func(f api.DiskFile) bool { return f.Name == name })
}

// copyFiles is a new list of new texts.
func copyFiles(files []api.DiskFile) []api.DiskFile {
	l := slices.Clone(files)
	for i, f := range l {
		l[i].Name = strings.Clone(f.Name)
		l[i].Data = strings.Clone(f.Data)
	}
	return l
}
