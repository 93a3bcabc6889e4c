package value

import (
	"unicode/utf8"

	"potsherd/api"
)

// maxName is how many bytes the name of a column, or of a table, has at most.
const maxName = 64

// Check tells why v is not right: ErrType, ErrLong or ErrUtf, in this order.
func Check(v api.Value) api.Errno {
	if v.Kind >= api.KindCount || v != bare(v) {
		return api.ErrType
	}
	if len(v.S) > api.MaxText {
		return api.ErrLong
	}
	return checkUtf(v.S)
}

// bare is v with nothing but what its kind has.
func bare(v api.Value) api.Value {
	b := api.Value{Kind: v.Kind}
	switch v.Kind {
	case api.KindBool:
		b.B = v.B
	case api.KindInt:
		b.N = v.N
	case api.KindText:
		b.S = v.S
	}
	return b
}

func checkUtf(s string) api.Errno {
	if !utf8.ValidString(s) {
		return api.ErrUtf
	}
	return api.OK
}

func checkName(s string) api.Errno {
	if s == "" || len(s) > maxName {
		return api.ErrLong
	}
	return checkUtf(s)
}

// CheckCols tells why l are no columns of a table: how many there are, then what the first one that is not right lacks.
func CheckCols(l []api.Col) api.Errno {
	if len(l) == 0 || len(l) > api.MaxCols {
		return api.ErrMany
	}
	for i, c := range l {
		if why := checkCol(c, l[:i]); why != api.OK {
			return why
		}
	}
	return api.OK
}

// checkCol holds c against those before it alone, so that of two columns of one name the second is the one too many.
func checkCol(c api.Col, before []api.Col) api.Errno {
	if why := checkName(c.Name); why != api.OK {
		return why
	}
	for _, b := range before {
		if b.Name == c.Name {
			return api.ErrTwice
		}
	}
	switch c.Kind {
	case api.KindBool, api.KindInt, api.KindText:
		return api.OK
	}
	return api.ErrType
}

// CheckRow tells why r is no row of the columns l, which are taken as they are.
func CheckRow(r api.Row, l []api.Col) api.Errno {
	if len(r) != len(l) {
		return api.ErrMany
	}
	for i, v := range r {
		if why := Check(v); why != api.OK {
			return why
		}
		if v.Kind != api.KindNull && v.Kind != l[i].Kind {
			return api.ErrType
		}
	}
	return api.OK
}

// CheckTable tells why t is not right: its name, its columns, how many rows it has, its rows.
func CheckTable(t api.Table) api.Errno {
	if why := checkName(t.Name); why != api.OK {
		return why
	}
	if why := CheckCols(t.Cols); why != api.OK {
		return why
	}
	if len(t.Rows) > api.MaxRows {
		return api.ErrMany
	}
	for _, r := range t.Rows {
		if why := CheckRow(r, t.Cols); why != api.OK {
			return why
		}
	}
	return api.OK
}
