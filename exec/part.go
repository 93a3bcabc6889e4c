package exec

import (
	"math"

	"potsherd/api"
	"potsherd/value"
)

const (
	// perItem is how many values of a group's row tell of an item: three ints, and Best.
	perItem = 4
	// lowBits is how many bits of a sum its Low has.
	lowBits = 32
	maxLow  = 1<<lowBits - 1
	// maxHigh is how far from 0 a right High is at most: as many as may come, added up, are within an int64.
	maxHigh = 1 << 44
)

// part is what is known of an item's values in a group: the four values of a group's row.
type part struct {
	count int64
	high  int64
	low   int64
	best  api.Value
}

func whole(n int64) api.Value { return api.Value{Kind: api.KindInt, N: n} }

func isNull(v api.Value) bool { return v == api.Value{} }

// partOf is what one row tells of the item.
func (q query) partOf(item api.Item, row api.Row) part {
	switch item.Agg {
	case api.AggNone:
		return part{}
	case api.AggCount:
		return part{count: 1}
	}
	v := q.comesTo(item.Expr, row)
	switch {
	case isNull(v):
		return part{}
	case item.Agg == api.AggSum:
		return part{count: 1, high: v.N >> lowBits, low: v.N & maxLow}
	}
	return part{count: 1, best: v}
}

// partIn is the part that stands in a group's row as those values.
func partIn(values []api.Value) part {
	return part{count: values[0].N, high: values[1].N, low: values[2].N, best: values[3]}
}

func (p part) values() []api.Value {
	return []api.Value{whole(p.count), whole(p.high), whole(p.low), p.best}
}

// with is what p and more tell together; what Low can't hold goes to High.
func (p part) with(more part, agg api.AggKind) part {
	low := p.low + more.low
	return part{
		count: p.count + more.count,
		high:  p.high + more.high + low>>lowBits,
		low:   low & maxLow,
		best:  better(agg, p.best, more.best),
	}
}

// better is the least of two values of AggMin, the greatest one of AggMax; null is neither.
func better(agg api.AggKind, a, b api.Value) api.Value {
	switch {
	case isNull(a):
		return b
	case isNull(b):
		return a
	case (value.Compare(a, b) <= 0) == (agg == api.AggMin):
		return a
	}
	return b
}

// isRight tells whether a fragment may tell p of an item.
func (p part) isRight(agg api.AggKind) bool {
	if !isWithin(p.count, 0, api.MaxAnswer) || !isWithin(p.high, -maxHigh, maxHigh) || !isWithin(p.low, 0, maxLow) {
		return false
	}
	switch {
	case agg == api.AggNone || p.count == 0:
		return p == part{}
	case agg == api.AggCount:
		return p == part{count: p.count}
	case agg == api.AggSum:
		return isNull(p.best)
	}
	return p.high == 0 && p.low == 0 && !isNull(p.best)
}

func isWithin(n, least, most int64) bool { return n >= least && n <= most }

// told is what the aggregate comes to.
func (p part) told(agg api.AggKind) api.Value {
	switch agg {
	case api.AggCount:
		return whole(p.count)
	case api.AggSum:
		return p.sum()
	}
	return p.best
}

// sum is null without numbers, and where it is beyond an int64.
func (p part) sum() api.Value {
	if p.count == 0 || !isWithin(p.high, math.MinInt32, math.MaxInt32) {
		return api.Value{}
	}
	return whole(p.high<<lowBits + p.low)
}
