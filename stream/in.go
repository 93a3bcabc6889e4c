package stream

import (
	"potsherd/api"
	"potsherd/fresh"
)

// CheckIn tells ErrState, if i is not right.
func CheckIn(i api.In) api.Errno {
	switch {
	case i.Next > MaxBatches, uint64(len(i.Rows)) > api.MaxBatch*i.Next, !areHeld(i):
		return api.ErrState
	case i.Done && (len(i.Held) > 0 || i.Next == 0):
		return api.ErrState
	}
	return api.OK
}

// Take is i with the batch m, and with all rows that are in order by now; with an error it is i alone, unless that is not right.
func Take(i api.In, m api.Msg) (api.In, api.Errno) {
	if why := CheckIn(i); why != api.OK {
		return api.In{}, why
	}
	in := fresh.In(i)
	why := refuse(in, m)
	if why == api.OK {
		in = pass(hold(in, api.Batch{Seq: m.Seq, Last: m.Last, Rows: fresh.Rows(m.Rows)}))
	}
	return in, why
}

// Ack tells how many batches came, one behind the other.
func Ack(i api.In) api.Msg { return api.Msg{Kind: api.MsgAck, Stream: i.Stream, Seq: i.Next} }
