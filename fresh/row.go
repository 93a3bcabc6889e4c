package fresh

import (
	"strings"

	"potsherd/api"
)

func table(t api.Table) api.Table {
	t.Name = strings.Clone(t.Name)
	t.Cols = each(t.Cols, column)
	t.Rows = Rows(t.Rows)
	return t
}

func column(c api.Col) api.Col {
	c.Name = strings.Clone(c.Name)
	return c
}

// Rows are those of l in new memory.
func Rows(l []api.Row) []api.Row { return each(l, row) }

func row(r api.Row) api.Row { return each(r, value) }

func value(v api.Value) api.Value {
	v.S = strings.Clone(v.S)
	return v
}
