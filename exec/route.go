package exec

import (
	"slices"
	"strings"

	"potsherd/api"
	"potsherd/value"
)

// toAll is a fragment's By, if each that it sends to gets all rows.
const toAll = -1

// mayRoute tells whether the Raw fragment f sends rows of one of the query's tables somewhere, by a column of it or to all.
func (q query) mayRoute(f api.Frag) bool {
	cols := q.colsOf(f.Left.Table)
	return len(cols) > 0 && len(f.To) > 0 && len(f.To) <= api.MaxFrags && f.By >= toAll && f.By < len(cols)
}

// colsOf is the columns of that table, of which there are some; none, if it is none of the query's.
func (q query) colsOf(table string) []api.Col {
	switch table {
	case q.Table:
		return q.tableCols
	case q.Join:
		return q.joinCols
	}
	return nil
}

// route is the rows for each that f sends to.
func route(f api.Frag, rows []api.Row) [][]api.Row {
	lists := make([][]api.Row, len(f.To))
	byPlace := routed(rows, func(r api.Row) int { return placeOf(f, r) })
	for place := range lists {
		lists[place] = copyRows(slices.Concat(byPlace[toAll], byPlace[place]))
	}
	return lists
}

// placeOf is the place in To that r is sent to, or toAll; the hash is taken without a sign, so that no place is below 0.
func placeOf(f api.Frag, r api.Row) int {
	if f.By == toAll {
		return toAll
	}
	return int(value.Hash(r[f.By]) % uint64(len(f.To)))
}

// routed is the rows by what the key tells of them, each list in their order.
func routed[K comparable](rows []api.Row, key func(api.Row) K) map[K][]api.Row {
	lists := map[K][]api.Row{}
	for _, r := range rows {
		k := key(r)
		lists[k] = append(lists[k], r)
	}
	return lists
}

func copyRows(l []api.Row) []api.Row {
	rows := make([]api.Row, len(l))
	for i, r := range l {
		rows[i] = copyRow(r)
	}
	return rows
}

// copyRow copies the texts, too, since an answer shares none with what was handed in.
func copyRow(r api.Row) api.Row {
	row := make(api.Row, len(r))
	for i, v := range r {
		v.S = strings.Clone(v.S)
		row[i] = v
	}
	return row
}
