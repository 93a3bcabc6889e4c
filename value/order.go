package value

import (
	"cmp"
	"slices"
	"strings"
	"unicode/utf8"

	"potsherd/api"
)

// Compare is the order of values: -1, 0 or 1. Fields that the kind has not are no matter.
func Compare(a, b api.Value) int {
	if a.Kind != b.Kind {
		return cmp.Compare(a.Kind, b.Kind)
	}
	switch a.Kind {
	case api.KindBool:
		return compareBools(a.B, b.B)
	case api.KindInt:
		return cmp.Compare(a.N, b.N)
	case api.KindText:
		return compareTexts(a.S, b.S)
	}
	return 0
}

func compareBools(a, b bool) int {
	if a == b {
		return 0
	}
	if b {
		return -1
	}
	return 1
}

// compareTexts goes by runes, not by bytes: a byte that begins no rune is the rune 65533, wherever that stands in the order.
func compareTexts(a, b string) int {
	rest := b
	for _, r := range a {
		if rest == "" {
			return 1
		}
		q, size := utf8.DecodeRuneInString(rest)
		if r != q {
			return cmp.Compare(r, q)
		}
		rest = rest[size:]
	}
	if rest != "" {
		return -1
	}
	return 0
}

// CompareRows is the order of rows: -1, 0 or 1.
func CompareRows(a, b api.Row) int {
	return compareLists(a, b, Compare)
}

// compareLists holds two lists against each other: the first two items that are unlike tell, else the shorter list is below.
func compareLists[T any](a, b []T, compare func(T, T) int) int {
	for i := range min(len(a), len(b)) {
		if c := compare(a[i], b[i]); c != 0 {
			return c
		}
	}
	return cmp.Compare(len(a), len(b))
}

// Runes counts the runes of s; a byte that begins none is one, alone.
func Runes(s string) int {
	n := 0
	for range s {
		n++
	}
	return n
}

// Sort is l by CompareRows, rows alike as they came.
func Sort(l []api.Row) []api.Row {
	sorted := copyRows(l)
	slices.SortStableFunc(sorted, CompareRows)
	return sorted
}

func copyRows(l []api.Row) []api.Row {
	rows := make([]api.Row, len(l))
	for i, r := range l {
		rows[i] = make(api.Row, len(r))
		copy(rows[i], r)
	}
	return rows
}

// SameBag tells whether a and b have the same rows, each as often.
func SameBag(a, b []api.Row) bool {
	if len(a) != len(b) {
		return false
	}
	x, y := slices.Clone(a), slices.Clone(b)
	slices.SortFunc(x, compareWholeRows)
	slices.SortFunc(y, compareWholeRows)
	return compareLists(x, y, compareWholeRows) == 0
}

func compareWholeRows(a, b api.Row) int {
	return compareLists(a, b, compareWhole)
}

// compareWhole tells values apart that Compare does not: those that are not right, by any of their fields, and texts by their bytes.
func compareWhole(a, b api.Value) int {
	if a == b {
		return 0
	}
	return cmp.Or(
		cmp.Compare(a.Kind, b.Kind),
		compareBools(a.B, b.B),
		cmp.Compare(a.N, b.N),
		strings.Compare(a.S, b.S),
	)
}
