package algebra

import (
	"iter"
	"slices"

	"potsherd/api"
	"potsherd/value"
)

// chosen yields the rows of the query b: those of which Where comes to true, neither to false nor to null.
func chosen(b api.Bound, l []api.Table) iter.Seq[api.Row] {
	return func(yield func(api.Row) bool) {
		for row := range sources(b, l) {
			if isChosen(b.Where, row) && !yield(row) {
				return
			}
		}
	}
}

func isChosen(where []api.Step, row api.Row) bool {
	return len(where) == 0 || comesTo(where, row) == boolean(true)
}

// sources yields the rows that Where is asked about.
func sources(b api.Bound, l []api.Table) iter.Seq[api.Row] {
	first := rowsOf(b.Table, l)
	if b.Join == "" {
		return slices.Values(first)
	}
	return joined(b, first, rowsOf(b.Join, l))
}

// joined yields each row of the first table with each one of the second behind it that goes with it.
func joined(b api.Bound, first, second []api.Row) iter.Seq[api.Row] {
	return func(yield func(api.Row) bool) {
		for _, r := range first {
			for _, q := range second {
				if areAlike(r[b.Left], q[b.Right]) && !yield(slices.Concat(r, q)) {
					return
				}
			}
		}
	}
}

// areAlike tells whether two values join rows: null is like nothing, not even null.
func areAlike(a, b api.Value) bool {
	return !isNull(a) && !isNull(b) && value.Compare(a, b) == 0
}

// rowsOf is the rows of the table of that name.
func rowsOf(name string, l []api.Table) []api.Row {
	for _, t := range l {
		if t.Name == name {
			return t.Rows
		}
	}
	return nil
}
