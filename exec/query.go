package exec

import (
	"iter"
	"slices"

	"potsherd/algebra"
	"potsherd/api"
)

// query is a right bound query, and the columns of its tables.
type query struct {
	api.Bound
	tableCols []api.Col
	joinCols  []api.Col // none without a Join
	cols      []api.Col // all, one table's behind the other's
}

func queryOf(b api.Bound, cat []api.Table) query {
	q := query{Bound: b}
	for _, t := range cat {
		switch t.Name {
		case b.Table:
			q.tableCols = t.Cols
		case b.Join:
			q.joinCols = t.Cols
		}
	}
	q.cols = slices.Concat(q.tableCols, q.joinCols)
	return q
}

// rows yields the rows of the query, in the order of left, then right.
func (q query) rows(left, right []api.Row) iter.Seq[api.Row] {
	return func(yield func(api.Row) bool) {
		for row := range q.sources(left, right) {
			if q.isChosen(row) && !yield(row) {
				return
			}
		}
	}
}

func (q query) isChosen(row api.Row) bool {
	return len(q.Where) == 0 || q.comesTo(q.Where, row) == api.Value{Kind: api.KindBool, B: true}
}

// comesTo is new memory, its text, too; the expression and the row are right by now.
func (q query) comesTo(l []api.Step, row api.Row) api.Value {
	v, _ := algebra.Eval(l, row, q.cols)
	return v
}

// sources yields the rows that Where is asked about.
func (q query) sources(left, right []api.Row) iter.Seq[api.Row] {
	if q.Join == "" {
		return slices.Values(left)
	}
	return q.joined(left, right)
}

// joined yields each row of left with each one of right behind it that goes with it. Values that are right are alike just if all their fields are.
func (q query) joined(left, right []api.Row) iter.Seq[api.Row] {
	partners := routed(right, func(r api.Row) api.Value { return r[q.Right] })
	// Null goes with nothing, not even with null.
	delete(partners, api.Value{})
	return func(yield func(api.Row) bool) {
		for _, l := range left {
			for _, r := range partners[l[q.Left]] {
				if !yield(slices.Concat(l, r)) {
					return
				}
			}
		}
	}
}

// answer is what the items come to of a row.
func (q query) answer(row api.Row) api.Row {
	answer := make(api.Row, len(q.Items))
	for i, item := range q.Items {
		answer[i] = q.comesTo(item.Expr, row)
	}
	return answer
}

// each yields what is made of each of a list's.
func each[A, B any](l iter.Seq[A], made func(A) B) iter.Seq[B] {
	return func(yield func(B) bool) {
		for a := range l {
			if !yield(made(a)) {
				return
			}
		}
	}
}
