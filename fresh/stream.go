package fresh

import "potsherd/api"

// Out is o in new memory.
func Out(o api.Out) api.Out {
	o.Batches = each(o.Batches, Rows)
	return o
}

// In is i in new memory.
func In(i api.In) api.In {
	i.Held = each(i.Held, batch)
	i.Rows = Rows(i.Rows)
	return i
}

func batch(b api.Batch) api.Batch {
	b.Rows = Rows(b.Rows)
	return b
}
