package bind_test

import (
	"slices"
	"testing"

	"potsherd/api"
	"potsherd/bind"
)

func TestRight(t *testing.T) { // 4.2: changes of queries that are right
	grouped, _ := bind.Bind(read(t, "(from t (join u t.k x) (where b) (group y b) (get y (count) (sum x) (min y)))"), catalog())
	bare, _ := bind.Bind(read(t, "(from t (get k (length s) \"é\"))"), catalog())
	for name, x := range map[string]struct {
		of     api.Bound
		change func(b *api.Bound)
		want   bool
	}{
		"grouped":                {grouped, func(b *api.Bound) {}, true},
		"bare":                   {bare, func(b *api.Bound) {}, true},
		"zero":                   {bare, func(b *api.Bound) { *b = api.Bound{} }, false},
		"no table":               {bare, func(b *api.Bound) { b.Table = "" }, false},
		"another table":          {bare, func(b *api.Bound) { b.Table = "u" }, false},
		"a table that is none":   {bare, func(b *api.Bound) { b.Table = "z" }, false},
		"a width without a join": {bare, func(b *api.Bound) { b.Width = 3 }, false},
		"a left without a join":  {bare, func(b *api.Bound) { b.Left = 1 }, false},
		"a right without a join": {bare, func(b *api.Bound) { b.Right = -1 }, false},
		"a join that is none":    {grouped, func(b *api.Bound) { b.Join = "z" }, false},
		"a join of itself": {grouped, func(b *api.Bound) {
			b.Join, b.Left, b.Right, b.Where, b.Group = "t", 0, 0, nil, []int{1, 2}
			b.Items = b.Items[1:2]
			b.Names = b.Names[1:2]
			b.Kinds = b.Kinds[1:2]
			b.Names[0] = "c1"
		}, false},
		"no join any more":            {grouped, func(b *api.Bound) { b.Join = "" }, false},
		"no width":                    {grouped, func(b *api.Bound) { b.Width = 0 }, false},
		"a width too great":           {grouped, func(b *api.Bound) { b.Width = 4 }, false},
		"another left of the kind":    {grouped, func(b *api.Bound) { b.Left, b.Right = 1, 3 }, true},
		"another right of the kind":   {grouped, func(b *api.Bound) { b.Right = 1 }, true},
		"a left of another kind":      {grouped, func(b *api.Bound) { b.Left = 1 }, false},
		"a left below":                {grouped, func(b *api.Bound) { b.Left = -1 }, false},
		"a left that is of the join":  {grouped, func(b *api.Bound) { b.Left = 4 }, false},
		"a right below":               {grouped, func(b *api.Bound) { b.Left, b.Right = 0, -3 }, false},
		"a right beyond":              {grouped, func(b *api.Bound) { b.Right = 4 }, false},
		"a right far beyond":          {grouped, func(b *api.Bound) { b.Right = 1<<63 - 1 }, false},
		"no where":                    {grouped, func(b *api.Bound) { b.Where = nil }, true},
		"an empty where":              {grouped, func(b *api.Bound) { b.Where = steps() }, true},
		"a where of null":             {grouped, func(b *api.Bound) { b.Where = steps(op(api.StepNull)) }, true},
		"a where of an int":           {grouped, func(b *api.Bound) { b.Where = steps(at(0)) }, false},
		"a where of a name":           {grouped, func(b *api.Bound) { b.Where = steps(col("b")) }, false},
		"a where beyond":              {grouped, func(b *api.Bound) { b.Where = steps(at(7)) }, false},
		"a where at the last":         {grouped, func(b *api.Bound) { b.Where = steps(at(6), op(api.StepIsNull)) }, true},
		"a where of two":              {grouped, func(b *api.Bound) { b.Where = steps(at(2), at(2)) }, false},
		"a greater group":             {grouped, func(b *api.Bound) { b.Group = []int{6, 0, 1, 2, 3, 4, 5} }, true},
		"a group twice":               {grouped, func(b *api.Bound) { b.Group = []int{6, 2, 6} }, false},
		"a group below":               {grouped, func(b *api.Bound) { b.Group = []int{6, -1} }, false},
		"a group beyond":              {grouped, func(b *api.Bound) { b.Group = []int{6, 7} }, false},
		"a group without the item":    {grouped, func(b *api.Bound) { b.Group = []int{2} }, false},
		"no group, but an item":       {grouped, func(b *api.Bound) { b.Group = nil }, false},
		"an item less":                {grouped, func(b *api.Bound) { b.Items = b.Items[:3] }, false},
		"an item, name and kind less": {grouped, func(b *api.Bound) { b.Items, b.Names, b.Kinds = b.Items[:3], b.Names[:3], b.Kinds[:3] }, true},
		"no items":                    {grouped, func(b *api.Bound) { b.Items, b.Names, b.Kinds = nil, nil, nil }, false},
		"no items, not grouped":       {bare, func(b *api.Bound) { b.Items, b.Names, b.Kinds = nil, nil, nil }, false},
		"not said to be grouped":      {grouped, func(b *api.Bound) { b.Grouped = false }, false},
		"said to be grouped":          {bare, func(b *api.Bound) { b.Grouped = true }, false},
		"grouped by an aggregate": {bare, func(b *api.Bound) {
			b.Grouped, b.Items[0], b.Items[1], b.Items[2] = true, api.Item{Agg: api.AggSum, Expr: steps(at(0))}, api.Item{Agg: api.AggCount}, api.Item{Agg: api.AggMin, Expr: steps(at(1))}
			b.Names[0] = "c1"
		}, true},
		"an item that is no column": {grouped, func(b *api.Bound) {
			b.Items[0].Expr = steps(at(6), op(api.StepLength))
			b.Names[0], b.Kinds[0] = "c1", api.KindInt
		}, false},
		"an item of the group":       {grouped, func(b *api.Bound) { b.Items[0].Expr[0].N = 2; b.Names[0], b.Kinds[0] = "b", api.KindBool }, true},
		"an item not of the group":   {grouped, func(b *api.Bound) { b.Items[0].Expr[0].N = 1; b.Names[0] = "s" }, false},
		"an item of a name":          {bare, func(b *api.Bound) { b.Items[0].Expr = steps(col("k")) }, false},
		"an item of no steps":        {bare, func(b *api.Bound) { b.Items[0].Expr = nil }, false},
		"an item beyond":             {bare, func(b *api.Bound) { b.Items[0].Expr[0].N = 3 }, false},
		"an item of wrong kinds":     {bare, func(b *api.Bound) { b.Items[1].Expr[1].Kind = api.StepNeg }, false},
		"a count with a step":        {grouped, func(b *api.Bound) { b.Items[1].Expr = steps(at(0)) }, false},
		"a count with no steps":      {grouped, func(b *api.Bound) { b.Items[1].Expr = steps() }, true},
		"a sum of a text":            {grouped, func(b *api.Bound) { b.Items[2].Expr = steps(at(6)) }, false},
		"a sum of null":              {grouped, func(b *api.Bound) { b.Items[2].Expr = steps(op(api.StepNull)) }, true},
		"a sum of no steps":          {grouped, func(b *api.Bound) { b.Items[2].Expr = nil }, false},
		"a max in place of a min":    {grouped, func(b *api.Bound) { b.Items[3].Agg = api.AggMax }, true},
		"a min of another kind":      {grouped, func(b *api.Bound) { b.Items[3].Expr[0].N = 0 }, false},
		"an aggregate that is none":  {grouped, func(b *api.Bound) { b.Items[3].Agg = api.AggEnd }, false},
		"aggregate 255":              {grouped, func(b *api.Bound) { b.Items[3].Agg = 255 }, false},
		"another name":               {bare, func(b *api.Bound) { b.Names[0] = "c1" }, false},
		"another text":               {bare, func(b *api.Bound) { b.Names[1] = "c1" }, false},
		"a name too few":             {bare, func(b *api.Bound) { b.Names = b.Names[:2] }, false},
		"a name too many":            {bare, func(b *api.Bound) { b.Names = append(b.Names, "") }, false},
		"another kind":               {bare, func(b *api.Bound) { b.Kinds[0] = api.KindText }, false},
		"a kind too few":             {bare, func(b *api.Bound) { b.Kinds = b.Kinds[:2] }, false},
		"a kind too many":            {bare, func(b *api.Bound) { b.Kinds = append(b.Kinds, 0) }, false},
		"as many items as may be":    {bare, func(b *api.Bound) { repeat(b, api.MaxItems) }, true},
		"one item too many":          {bare, func(b *api.Bound) { repeat(b, api.MaxItems+1) }, false},
		"a table no query can name":  {bare, func(b *api.Bound) { b.Table, b.Names[0] = "not asked", "z"; repeat(b, 2) }, true},
		"a column no query can name": {bare, func(b *api.Bound) { b.Table, b.Names[0] = "odd", "a b"; repeat(b, 2) }, true},
	} {
		b := copyOf(x.of)
		x.change(&b)
		if got := bind.Right(b, catalog()); got != x.want {
			t.Errorf("Right, %s: %v", name, got)
		}
	}
}

// repeat makes n items of the first one.
func repeat(b *api.Bound, n int) {
	b.Items, b.Names, b.Kinds = slices.Repeat(b.Items[:1], n), slices.Repeat(b.Names[:1], n), slices.Repeat(b.Kinds[:1], n)
}

func copyOf(b api.Bound) api.Bound {
	b.Where, b.Group, b.Items, b.Names, b.Kinds = slices.Clone(b.Where), slices.Clone(b.Group), slices.Clone(b.Items), slices.Clone(b.Names), slices.Clone(b.Kinds)
	for i := range b.Items {
		b.Items[i].Expr = slices.Clone(b.Items[i].Expr)
	}
	return b
}

func TestRightOfFullGroups(t *testing.T) { // 4.2: MaxItems columns, and one more
	b, why := bind.Bind(read(t, "(from v (join u c1 x) (group c1 c2 c3 c4 c5 c6 c7 c8) (get c1))"), catalog())
	if why != api.OK || !bind.Right(b, catalog()) {
		t.Fatal("as many as may be: error", why)
	}
	b.Group = append(b.Group, 8)
	if bind.Right(b, catalog()) {
		t.Error("one column too many of a group")
	}
}
