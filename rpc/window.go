package rpc

import (
	"slices"

	"potsherd/api"
)

// CheckWindow tells ErrState, if w is not right.
func CheckWindow(w api.WindowOf) api.Errno {
	if len(w.Ids) > api.Window || hasTwice(w.Ids) {
		return api.ErrState
	}
	return api.OK
}

func hasTwice(l []api.Qid) bool {
	for i, q := range l {
		if slices.Contains(l[:i], q) {
			return true
		}
	}
	return false
}

// Put is w with q last.
func Put(w api.WindowOf, q api.Qid) (api.WindowOf, api.Errno) {
	if why := CheckWindow(w); why != api.OK {
		return api.WindowOf{}, why
	}
	isIt := func(x api.Qid) bool { return x == q }
	ids := append(slices.DeleteFunc(slices.Clone(w.Ids), isIt), q)
	if len(ids) > api.Window {
		ids = ids[1:]
	}
	return api.WindowOf{Ids: ids}, api.OK
}

// Has tells whether q is there.
func Has(w api.WindowOf, q api.Qid) bool { return slices.Contains(w.Ids, q) }
