package bind_test

import (
	"strconv"
	"strings"
	"testing"

	"potsherd/api"
	"potsherd/bind"
)

func column(name string, k api.Kind) api.Col { return api.Col{Name: name, Kind: k} }

// tables are n right ones, with names t0, t1, ..
func tables(n int) []api.Table {
	var l []api.Table
	for i := range n {
		l = append(l, api.Table{Name: "t" + strconv.Itoa(i), Cols: []api.Col{column("a", api.KindInt)}})
	}
	return l
}

func TestCheck(t *testing.T) { // 4.1
	with := func(l []api.Table, more ...api.Table) []api.Table { return append(l, more...) }
	cols := []api.Col{column("a", api.KindInt)}
	odd := []api.Row{nil, {{Kind: 9}}, {{}, {}, {}}}
	for name, x := range map[string]struct {
		l    []api.Table
		want api.Errno
	}{
		"none":                     {nil, api.OK},
		"empty":                    {[]api.Table{}, api.OK},
		"as many as may be":        {tables(api.MaxTables), api.OK},
		"one too many":             {tables(api.MaxTables + 1), api.ErrMany},
		"many ahead of all":        {make([]api.Table, api.MaxTables+1), api.ErrMany},
		"zero":                     {make([]api.Table, 1), api.ErrLong},
		"a long name":              {with(tables(1), api.Table{Name: strings.Repeat("a", 65), Cols: cols}), api.ErrLong},
		"a bad name":               {with(tables(1), api.Table{Name: "\xff", Cols: cols}), api.ErrUtf},
		"any name":                 {with(tables(1), api.Table{Name: "( .", Cols: cols}), api.OK},
		"no columns":               {with(tables(1), api.Table{Name: "t"}), api.ErrMany},
		"a column of no kind":      {with(tables(1), api.Table{Name: "t", Cols: []api.Col{column("a", api.KindNull)}}), api.ErrType},
		"a column twice":           {with(tables(1), api.Table{Name: "t", Cols: append(cols, cols...)}), api.ErrTwice},
		"columns of two tables":    {with(tables(1), api.Table{Name: "t", Cols: cols}), api.OK},
		"rows that are not right":  {with(tables(1), api.Table{Name: "t", Cols: cols, Rows: odd}), api.OK},
		"rows past the limit":      {with(tables(1), api.Table{Name: "t", Cols: cols, Rows: make([]api.Row, api.MaxRows+1)}), api.OK},
		"a name twice":             {with(tables(3), api.Table{Name: "t1", Cols: cols}), api.ErrTwice},
		"a table ahead of twice":   {with(tables(3), api.Table{Name: "t1"}), api.ErrMany},
		"table by table":           {with(tables(1), tables(1)[0], api.Table{}), api.ErrTwice},
		"table by table, turned":   {with(tables(1), api.Table{}, tables(1)[0]), api.ErrLong},
		"alike but for the letter": {with(tables(1), api.Table{Name: "T0", Cols: cols}), api.OK},
	} {
		if why := bind.Check(x.l); why != x.want {
			t.Errorf("Check, %s: error %d, not %d", name, why, x.want)
		}
		q := api.Query{Table: "t0"}
		if x.want == api.OK && len(x.l) == 0 {
			x.want = api.ErrName
		}
		if _, why := bind.Bind(q, x.l); why != x.want { // 4.2
			t.Errorf("Bind, %s: error %d, not %d", name, why, x.want)
		}
		if _, why := bind.Bind(api.Query{}, x.l); why != api.ErrSyntax {
			t.Errorf("Bind of no query, %s: error %d", name, why)
		}
		if bind.Right(right0(), x.l) != (x.want == api.OK) {
			t.Errorf("Right, %s", name)
		}
	}
}

// right0 is (from t0) of tables, bound.
func right0() api.Bound {
	return api.Bound{Table: "t0", Items: []api.Item{{Expr: []api.Step{{Kind: api.StepCol}}}}, Names: []string{"a"}, Kinds: []api.Kind{api.KindInt}}
}
