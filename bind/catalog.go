package bind

import (
	"slices"

	"potsherd/api"
	"potsherd/value"
)

// Check tells why l is no catalog; the tables' rows are no matter.
func Check(l []api.Table) api.Errno {
	if len(l) > api.MaxTables {
		return api.ErrMany
	}
	for i, t := range l {
		if why := value.CheckTable(api.Table{Name: t.Name, Cols: t.Cols}); why != api.OK {
			return why
		}
		if _, there := find(l[:i], t.Name); there {
			return api.ErrTwice
		}
	}
	return api.OK
}

// find is the table of that name.
func find(l []api.Table, name string) (api.Table, bool) {
	i := slices.IndexFunc(l, func(t api.Table) bool { return t.Name == name })
	if i < 0 {
		return api.Table{}, false
	}
	return l[i], true
}

// scope is the columns of a query: the first width are those of table, the others, if there are any, those of join.
type scope struct {
	table   string
	join    string
	width   int
	columns []api.Col
}

// scopeOf tells the columns of a query, or false, if a table is not known; join may be empty.
func scopeOf(table, join string, l []api.Table) (scope, bool) {
	first, known := find(l, table)
	if !known {
		return scope{}, false
	}
	s := scope{table: table, width: len(first.Cols), columns: slices.Clone(first.Cols)}
	if join == "" {
		return s, true
	}
	second, known := find(l, join)
	if !known {
		return scope{}, false
	}
	s.join = join
	s.columns = append(s.columns, second.Cols...)
	return s, true
}

// tableOf is the name of the table that has the column at that place.
func (s scope) tableOf(place int) string {
	if place < s.width {
		return s.table
	}
	return s.join
}
