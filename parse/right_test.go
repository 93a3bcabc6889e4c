package parse_test

import (
	"slices"
	"testing"

	"potsherd/api"
	"potsherd/parse"
)

func TestTakes(t *testing.T) { // 3.2
	for k := range 256 {
		kind := api.StepKind(k)
		want, right := 0, kind > api.StepNone && kind < api.StepCount
		if right && kind >= api.StepNeg {
			want = 1
		}
		if right && kind >= api.StepAdd {
			want = 2
		}
		bare := op(kind)
		if kind == api.StepCol {
			bare.Text = "a"
		}
		if n, ok := parse.Takes(bare); n != want || ok != right {
			t.Errorf("Takes(%v) = %d, %v", bare, n, ok)
		}
		for _, n := range []int64{1, -1, 1<<63 - 1, -1 << 63} {
			s := bare
			s.N = n
			if got, ok := parse.Takes(s); ok != (kind == api.StepInt) || got != 0 {
				t.Errorf("Takes(%v) = %d, %v", s, got, ok)
			}
		}
		if s := (api.Step{Kind: kind, Text: "a"}); kind != api.StepCol && kind != api.StepText {
			if got, ok := parse.Takes(s); ok || got != 0 {
				t.Errorf("Takes(%v) = %d, %v", s, got, ok)
			}
		}
	}
	for s, right := range map[string]bool{"": true, "\x00": true, "é\n": true, "\uFFFD": true, "\xff": false, "a\xc3": false, times(api.MaxText, "a"): true, times(api.MaxText/2, "é"): true, times(api.MaxText+1, "a"): false, times(api.MaxText/2, "é") + "a": false} {
		if n, ok := parse.Takes(text(s)); ok != right || n != 0 {
			t.Errorf("Takes of the text %q = %d, %v", s, n, ok)
		}
	}
}

func TestRight(t *testing.T) { // 3.2
	a, neg, add := col("a"), op(api.StepNeg), op(api.StepAdd)
	for i, x := range []struct {
		l    []api.Step
		want bool
	}{
		{nil, false},
		{steps(), false},
		{steps(a), true},
		{steps(a, a), false},
		{steps(neg), false},
		{steps(a, neg), true},
		{steps(neg, a), false},
		{steps(a, add), false},
		{steps(a, a, add), true},
		{steps(a, add, a), false},
		{steps(a, a, neg, add), true},
		{steps(a, a, add, add, a), false},
		{steps(a, a, a, add), false},
		{steps(a, a, a, add, add), true},
		{steps(a, a, add, a, add), true},
		{steps(a, op(api.StepNone)), false},
		{steps(a, op(api.StepCount)), false},
		{steps(op(api.StepCol)), false},
		{steps(a, api.Step{Kind: api.StepNeg, N: 1}), false},
		{append(steps(a), slices.Repeat(steps(neg), api.MaxExpr-1)...), true},
		{append(steps(a), slices.Repeat(steps(neg), api.MaxExpr)...), false},
		{append(slices.Repeat(steps(a), 32), slices.Repeat(steps(add), 31)...), true},
		{append(slices.Repeat(steps(a), 33), slices.Repeat(steps(add), 32)...), false},
	} {
		if got := parse.Right(x.l); got != x.want {
			t.Errorf("Right, %d: %v", i, got)
		}
	}
}

// full is a query in which nothing is empty.
func full() api.Query {
	return api.Query{
		Table: "t", Join: "u", Left: "t.a", Right: "b", Where: steps(col("a")), Group: []string{"a"},
		Items: []api.Item{plain(col("a")), {Agg: api.AggCount}, {Agg: api.AggSum, Expr: steps(whole(1))}, {Agg: api.AggMin, Expr: steps(whole(1))}, {Agg: api.AggMax, Expr: steps(whole(1))}},
	}
}

func TestCheck(t *testing.T) { // 3.2, 3.3: by hand; what is not right is not printed, either
	for name, x := range map[string]struct {
		change func(q *api.Query)
		want   api.Errno
	}{
		"as it is":                  {func(q *api.Query) {}, api.OK},
		"zero":                      {func(q *api.Query) { *q = api.Query{} }, api.ErrSyntax},
		"a table alone":             {func(q *api.Query) { *q = api.Query{Table: "t"} }, api.OK},
		"empty lists":               {func(q *api.Query) { *q = api.Query{Table: "t", Where: steps(), Group: []string{}, Items: []api.Item{}} }, api.OK},
		"no table":                  {func(q *api.Query) { q.Table = "" }, api.ErrSyntax},
		"a table with a full stop":  {func(q *api.Query) { q.Table = "t.u" }, api.ErrSyntax},
		"a table null":              {func(q *api.Query) { q.Table = "null" }, api.ErrSyntax},
		"a long table":              {func(q *api.Query) { q.Table = times(65, "t") }, api.ErrSyntax},
		"a bad table":               {func(q *api.Query) { q.Table = "\xff" }, api.ErrSyntax},
		"a join of itself":          {func(q *api.Query) { q.Join = "t" }, api.ErrSyntax},
		"a join of no name":         {func(q *api.Query) { q.Join = "u.v" }, api.ErrSyntax},
		"no join":                   {func(q *api.Query) { q.Join, q.Left, q.Right = "", "", "" }, api.OK},
		"no join, but a left":       {func(q *api.Query) { q.Join, q.Right = "", "" }, api.ErrSyntax},
		"no join, but a right":      {func(q *api.Query) { q.Join, q.Left = "", "" }, api.ErrSyntax},
		"no left":                   {func(q *api.Query) { q.Left = "" }, api.ErrSyntax},
		"no right":                  {func(q *api.Query) { q.Right = "" }, api.ErrSyntax},
		"a left that is none":       {func(q *api.Query) { q.Left = "a.b.c" }, api.ErrSyntax},
		"a right that is none":      {func(q *api.Query) { q.Right = "7" }, api.ErrSyntax},
		"one column twice":          {func(q *api.Query) { q.Right = q.Left }, api.OK},
		"no where":                  {func(q *api.Query) { q.Where = nil }, api.OK},
		"two values":                {func(q *api.Query) { q.Where = steps(col("a"), col("a")) }, api.ErrSyntax},
		"a column of no name":       {func(q *api.Query) { q.Where = steps(api.Step{Kind: api.StepCol}) }, api.ErrSyntax},
		"a column that is bound":    {func(q *api.Query) { q.Where[0].N = 1 }, api.ErrSyntax},
		"no group":                  {func(q *api.Query) { q.Group = nil }, api.OK},
		"a full group":              {func(q *api.Query) { q.Group = slices.Repeat([]string{"t.a"}, api.MaxItems) }, api.OK},
		"a group too great":         {func(q *api.Query) { q.Group = slices.Repeat([]string{"a"}, api.MaxItems+1) }, api.ErrSyntax},
		"a group of no column":      {func(q *api.Query) { q.Group = []string{"a", ""} }, api.ErrSyntax},
		"a group without items":     {func(q *api.Query) { q.Items = nil }, api.ErrSyntax},
		"no group, and no items":    {func(q *api.Query) { q.Items, q.Group = nil, nil }, api.OK},
		"a count with a step":       {func(q *api.Query) { q.Items[1].Expr = steps(whole(1)) }, api.ErrSyntax},
		"a count with none":         {func(q *api.Query) { q.Items[1].Expr = steps() }, api.OK},
		"an item without a step":    {func(q *api.Query) { q.Items[0].Expr = nil }, api.ErrSyntax},
		"a sum without a step":      {func(q *api.Query) { q.Items[2].Expr = nil }, api.ErrSyntax},
		"a max with a wrong step":   {func(q *api.Query) { q.Items[4].Expr = steps(op(api.StepNeg)) }, api.ErrSyntax},
		"an aggregate that is none": {func(q *api.Query) { q.Items[3].Agg = api.AggEnd }, api.ErrSyntax},
		"aggregate 255":             {func(q *api.Query) { q.Items[3].Agg = 255 }, api.ErrSyntax},
		"as many items as may be":   {func(q *api.Query) { q.Items = slices.Repeat(q.Items[1:2], api.MaxItems) }, api.OK},
		"one item too many":         {func(q *api.Query) { q.Items = slices.Repeat(q.Items[1:2], api.MaxItems+1) }, api.ErrSyntax},
		"a long where": {func(q *api.Query) {
			q.Where = append(steps(col("a")), slices.Repeat(steps(op(api.StepNeg)), api.MaxExpr)...)
		}, api.ErrSyntax},
	} {
		q := full()
		x.change(&q)
		if why := parse.Check(q); why != x.want {
			t.Errorf("Check, %s: error %d", name, why)
		}
		if s, why := parse.Print(q); why != x.want || (s == "") != (why != api.OK) {
			t.Errorf("Print, %s: %q, error %d", name, s, why)
		}
	}
}
