package algebra

import (
	"iter"
	"math/bits"
	"slices"

	"potsherd/api"
	"potsherd/value"
)

// groups yields the rows that come to one row of the answer: each one alone, if b is not grouped.
func groups(b api.Bound, l []api.Table) iter.Seq[[]api.Row] {
	if b.Grouped {
		return byColumns(b.Group, chosen(b, l))
	}
	return func(yield func([]api.Row) bool) {
		for row := range chosen(b, l) {
			if !yield([]api.Row{row}) {
				return
			}
		}
	}
}

// byColumns yields the rows that are alike in those columns together; without columns all are, even where there is none.
func byColumns(columns []int, rows iter.Seq[api.Row]) iter.Seq[[]api.Row] {
	compare := func(a, b api.Row) int { return compareAt(columns, a, b) }
	return func(yield func([]api.Row) bool) {
		rest := slices.SortedStableFunc(rows, compare)
		if len(columns) == 0 {
			yield(rest)
			return
		}
		for len(rest) > 0 {
			end := slices.IndexFunc(rest, func(r api.Row) bool { return compare(r, rest[0]) != 0 })
			if end < 0 {
				end = len(rest)
			}
			if !yield(rest[:end]) {
				return
			}
			rest = rest[end:]
		}
	}
}

// compareAt is the order of two rows by those columns alone.
func compareAt(columns []int, a, b api.Row) int {
	for _, i := range columns {
		if c := value.Compare(a[i], b[i]); c != 0 {
			return c
		}
	}
	return 0
}

// ofGroup is what an item comes to of a group's rows.
func ofGroup(item api.Item, rows []api.Row) api.Value {
	switch item.Agg {
	case api.AggNone:
		// Any row tells: the item is a column by which the rows are alike, or there is but one.
		return comesTo(item.Expr, rows[0])
	case api.AggCount:
		return whole(int64(len(rows)))
	}
	values := known(item.Expr, rows)
	if len(values) == 0 {
		return api.Value{}
	}
	switch item.Agg {
	case api.AggMin:
		return slices.MinFunc(values, value.Compare)
	case api.AggMax:
		return slices.MaxFunc(values, value.Compare)
	}
	return sum(values)
}

// known is what the expression comes to, of the rows of which that is not null.
func known(l []api.Step, rows []api.Row) []api.Value {
	var values []api.Value
	for _, row := range rows {
		if v := comesTo(l, row); !isNull(v) {
			values = append(values, v)
		}
	}
	return values
}

// sum adds up in 128 bits, so that what is beyond an int64 in between is no matter.
func sum(l []api.Value) api.Value {
	var high int64
	var low uint64
	for _, v := range l {
		next, carry := bits.Add64(low, uint64(v.N), 0)
		low = next
		high += signOf(v.N) + int64(carry)
	}
	if high != signOf(int64(low)) {
		return api.Value{}
	}
	return whole(int64(low))
}

// signOf is the upper 64 bits of n in 128.
func signOf(n int64) int64 { return n >> 63 }
