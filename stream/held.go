package stream

import (
	"slices"

	"potsherd/api"
)

// areHeld tells whether the batches that i holds may be.
func areHeld(i api.In) bool {
	before := i.Next
	for k, b := range i.Held {
		isBehindLast := k > 0 && i.Held[k-1].Last
		if b.Seq <= before || b.Seq >= i.Next+api.Credits || len(b.Rows) > api.MaxBatch || isBehindLast {
			return false
		}
		before = b.Seq
	}
	return true
}

// refuse tells why the batch m is not taken.
func refuse(i api.In, m api.Msg) api.Errno {
	isIt := func(b api.Batch) bool { return b.Seq == m.Seq }
	isOver := func(b api.Batch) bool { return b.Last && m.Seq > b.Seq || m.Last && b.Seq > m.Seq }
	switch {
	case m.Kind != api.MsgBatch || m.Stream != i.Stream || len(m.Rows) > api.MaxBatch:
		return api.ErrType
	case i.Done || m.Seq < i.Next || slices.ContainsFunc(i.Held, isIt):
		return api.ErrTwice
	case m.Seq >= i.Next+api.Credits || m.Seq >= MaxBatches:
		return api.ErrRange
	case slices.ContainsFunc(i.Held, isOver):
		return api.ErrStale
	}
	return api.OK
}

// hold is i with b among what it holds, by Seq.
func hold(i api.In, b api.Batch) api.In {
	at := slices.IndexFunc(i.Held, func(x api.Batch) bool { return x.Seq > b.Seq })
	if at < 0 {
		at = len(i.Held)
	}
	i.Held = slices.Insert(i.Held, at, b)
	return i
}

// pass is i with the rows of those that it holds and need not, as nothing is missing ahead of them.
func pass(i api.In) api.In {
	held := i.Held
	for len(held) > 0 && held[0].Seq == i.Next {
		i.Rows = append(i.Rows, held[0].Rows...)
		i.Done = held[0].Last
		i.Next++
		held = held[1:]
	}
	// A list of its own, as the memory of those that went would else be kept behind it.
	i.Held = append([]api.Batch(nil), held...)
	return i
}
