package fresh

import "potsherd/api"

// Worker is w in new memory.
func Worker(w api.Worker) api.Worker {
	w.Disk = Disk(w.Disk)
	w.Tasks = each(w.Tasks, task)
	w.Over.Ids = plain(w.Over.Ids)
	return w
}

func task(t api.Task) api.Task {
	t.Bound = bound(t.Bound)
	t.Catalog = each(t.Catalog, table)
	t.Frag = frag(t.Frag)
	t.Nodes = plain(t.Nodes)
	t.Ins = each(t.Ins, In)
	t.Outs = each(t.Outs, Out)
	return t
}
