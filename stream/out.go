package stream

import (
	"iter"
	"slices"

	"potsherd/api"
	"potsherd/fresh"
)

// Cut is the stream s with rows in batches.
func Cut(s api.Stream, rows []api.Row) (api.Out, api.Errno) {
	if len(rows) > MaxBatches*api.MaxBatch {
		return api.Out{}, api.ErrMany
	}
	o := api.Out{Stream: s}
	for chunk := range chunks(rows) {
		o.Batches = append(o.Batches, fresh.Rows(chunk))
	}
	return o, api.OK
}

// chunks yields rows piece by piece, the last one with what is left; one without any, if there are none, as a stream ends with a batch.
func chunks(rows []api.Row) iter.Seq[[]api.Row] {
	return func(yield func([]api.Row) bool) {
		left := rows
		for len(left) > api.MaxBatch {
			if !yield(left[:api.MaxBatch]) {
				return
			}
			left = left[api.MaxBatch:]
		}
		yield(left)
	}
}

// CheckOut tells ErrState, if o is not right.
func CheckOut(o api.Out) api.Errno {
	n := len(o.Batches)
	if n == 0 || n > MaxBatches || o.Acked > uint64(n) || !areFull(o.Batches[:n-1]) || !isLast(o.Batches[n-1], n) {
		return api.ErrState
	}
	return api.OK
}

func areFull(batches [][]api.Row) bool {
	return !slices.ContainsFunc(batches, func(rows []api.Row) bool { return len(rows) != api.MaxBatch })
}

// isLast tells whether rows may be the last of n batches.
func isLast(rows []api.Row, n int) bool {
	return len(rows) <= api.MaxBatch && (len(rows) > 0 || n == 1)
}

// Send is the batches that are under way, as messages.
func Send(o api.Out) ([]api.Msg, api.Errno) {
	if why := CheckOut(o); why != api.OK {
		return nil, why
	}
	n := uint64(len(o.Batches))
	var l []api.Msg
	for seq := o.Acked; seq < min(n, o.Acked+api.Credits); seq++ {
		l = append(l, api.Msg{Kind: api.MsgBatch, Stream: o.Stream, Seq: seq, Last: seq == n-1, Rows: fresh.Rows(o.Batches[seq])})
	}
	return l, api.OK
}

// Acked is o of which all batches ahead of seq came, if these are batches of its own.
func Acked(o api.Out, s api.Stream, seq uint64) api.Out {
	out := fresh.Out(o)
	if s == o.Stream && seq <= uint64(len(o.Batches)) {
		out.Acked = seq
	}
	return out
}
