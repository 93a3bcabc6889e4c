package place_test

import (
	"math"
	"slices"
	"strconv"
	"strings"
	"testing"

	"potsherd/api"
	"potsherd/place"
)

// claim is a right one: each shard has the layout's owners.
func claim(l api.Layout) api.Claim {
	c := api.Claim{Table: "t", Cols: []api.Col{column("k", api.KindInt)}, Version: api.Version{Boot: 3, Load: 4}}
	for s := range l.Shards {
		o, _ := place.Owners(l, s)
		c.Owners = append(c.Owners, o)
	}
	return c
}

// columns are n of them, with names of their own.
func columns(n int) (l []api.Col) {
	for i := range n {
		l = append(l, column("c"+strconv.Itoa(i), api.KindText))
	}
	return l
}

func TestCheckClaim(t *testing.T) { // 6.2
	for _, l := range layouts() {
		if why := place.CheckClaim(l, claim(l)); why != api.OK {
			t.Fatalf("CheckClaim(%v, %v): error %d", l, claim(l), why)
		}
	}
	l := layout(4, 3, 2)
	change := func(f func(c *api.Claim)) api.Claim {
		c := claim(l)
		f(&c)
		return c
	}
	owned := func(o ...int) api.Claim { return change(func(c *api.Claim) { c.Owners[2] = o }) }
	for name, x := range map[string]struct {
		c    api.Claim
		want api.Errno
	}{
		"right":                   {claim(l), api.OK},
		"zero":                    {api.Claim{}, api.ErrState},
		"any version":             {change(func(c *api.Claim) { c.Version = api.Version{} }), api.OK},
		"no name":                 {change(func(c *api.Claim) { c.Table = "" }), api.ErrState},
		"a name as long as it is": {change(func(c *api.Claim) { c.Table = strings.Repeat("a", 64) }), api.OK},
		"a long name":             {change(func(c *api.Claim) { c.Table = strings.Repeat("a", 65) }), api.ErrState},
		"a bad name":              {change(func(c *api.Claim) { c.Table = "\xff" }), api.ErrState},
		"no columns":              {change(func(c *api.Claim) { c.Cols = nil }), api.ErrState},
		"all columns":             {change(func(c *api.Claim) { c.Cols = columns(api.MaxCols) }), api.OK},
		"a column too many":       {change(func(c *api.Claim) { c.Cols = columns(api.MaxCols + 1) }), api.ErrState},
		"a column twice":          {change(func(c *api.Claim) { c.Cols = append(c.Cols, c.Cols...) }), api.ErrState},
		"a column of null":        {change(func(c *api.Claim) { c.Cols[0].Kind = api.KindNull }), api.ErrState},
		"a column without a name": {change(func(c *api.Claim) { c.Cols[0].Name = "" }), api.ErrState},
		"no owners":               {change(func(c *api.Claim) { c.Owners = nil }), api.ErrState},
		"a shard less":            {change(func(c *api.Claim) { c.Owners = c.Owners[:2] }), api.ErrState},
		"a shard more":            {change(func(c *api.Claim) { c.Owners = append(c.Owners, []int{1}) }), api.ErrState},
		"owned by no one":         {owned(), api.ErrState},
		"owned by one":            {owned(1), api.OK},
		"by another one":          {owned(2), api.OK}, // a claim says who has a shard, not who should
		"by all":                  {owned(1, 2, 3), api.OK},
		"by the last one":         {owned(3), api.OK},
		"by the coordinator":      {owned(0), api.ErrState},
		"by it, too":              {owned(0, 1), api.ErrState},
		"below":                   {owned(-1, 1), api.ErrState},
		"far below":               {owned(math.MinInt), api.ErrState},
		"beyond":                  {owned(4), api.ErrState},
		"beyond, too":             {owned(1, 4), api.ErrState},
		"far beyond":              {owned(1, math.MaxInt), api.ErrState},
		"falling":                 {owned(3, 1), api.ErrState},
		"falling behind":          {owned(1, 3, 2), api.ErrState},
		"twice":                   {owned(2, 2), api.ErrState},
		"many":                    {owned(make([]int, 1<<16)...), api.ErrState},
		"the first one, wrong":    {change(func(c *api.Claim) { c.Owners[0] = nil }), api.ErrState},
	} {
		if why := place.CheckClaim(l, x.c); why != x.want {
			t.Errorf("%s: error %d; not %d", name, why, x.want)
		}
		p, why := place.Pick(l, x.c, []bool{true, true, true, true})
		if why != x.want || why != api.OK && len(p) != 0 {
			t.Errorf("%s: Pick is %v, error %d; not %d", name, p, why, x.want)
		}
		if p, why := place.Pick(l, x.c, nil); x.want == api.OK && why != api.ErrUnavailable || x.want != api.OK && why != x.want || len(p) != 0 {
			t.Errorf("%s: Pick of none that is alive is %v, error %d", name, p, why)
		}
	}
}

func TestPick(t *testing.T) { // 6.2
	l := layout(4, 3, 2)
	five := layout(6, 5, 3)
	all := api.Claim{Table: "t", Cols: columns(1), Owners: slices.Repeat([][]int{{1, 2, 4, 5}}, 5)}
	const on, off = true, false
	for name, x := range map[string]struct {
		l     api.Layout
		c     api.Claim
		alive []bool
		want  []int
	}{
		"all alive":                 {l, claim(l), []bool{on, on, on, on}, []int{1, 3, 1}},
		"the coordinator no matter": {l, claim(l), []bool{off, on, on, on}, []int{1, 3, 1}},
		"without the second":        {l, claim(l), []bool{on, on, off, on}, []int{1, 3, 1}},
		"without the first":         {l, claim(l), []bool{on, off, on, on}, []int{2, 3, 3}},
		"without the last":          {l, claim(l), []bool{on, on, on, off}, []int{1, 2, 1}},
		"a short list":              {l, claim(l), []bool{on, on, on}, []int{1, 2, 1}},
		"a long list":               {l, claim(l), []bool{on, on, on, on, on, on, on}, []int{1, 3, 1}},
		"only the first":            {l, claim(l), []bool{on, on, off, off}, nil},
		"only the last":             {l, claim(l), []bool{on, off, off, on}, nil},
		"only the coordinator":      {l, claim(l), []bool{on}, nil},
		"those that are not there":  {l, claim(l), []bool{on, off, off, off, on, on}, nil},
		"no one":                    {l, claim(l), nil, nil},
		"by turns":                  {five, all, []bool{on, on, on, on, on, on}, []int{1, 2, 4, 5, 1}},
		"by turns of three":         {five, all, []bool{on, on, on, on, off, on}, []int{1, 2, 5, 1, 2}},
		"by turns of two":           {five, all, []bool{on, off, on, on, off, on}, []int{2, 5, 2, 5, 2}},
		"by turns of one":           {five, all, []bool{on, off, off, on, off, on}, []int{5, 5, 5, 5, 5}},
		"none of them":              {five, all, []bool{on, off, off, on, off, off}, nil},
	} {
		p, why := place.Pick(x.l, x.c, x.alive)
		if x.want == nil && (why != api.ErrUnavailable || len(p) != 0) || x.want != nil && (why != api.OK || !slices.Equal(p, x.want)) {
			t.Errorf("%s: %v, error %d; not %v", name, p, why, x.want)
		}
	}
}

func TestPicked(t *testing.T) { // 6.2, 6.6: whoever is alive
	for _, l := range layouts() {
		c := claim(l)
		for bits := range 1 << l.Nodes {
			var alive []bool
			for w := range l.Nodes {
				alive = append(alive, bits>>w&1 == 1)
			}
			p, why := place.Pick(l, c, alive)
			lost := slices.ContainsFunc(c.Owners, func(o []int) bool {
				return !slices.ContainsFunc(o, func(w int) bool { return alive[w] })
			})
			if lost != (why == api.ErrUnavailable) || !lost && (why != api.OK || len(p) != l.Shards) || lost && len(p) != 0 {
				t.Fatalf("Pick(%v, %v) = %v, error %d", l, alive, p, why)
			}
			for s, w := range p {
				left := 0
				place := -1
				for _, o := range c.Owners[s] {
					if o == w {
						place = left
					}
					if alive[o] {
						left++
					}
				}
				if place < 0 || !alive[w] || place != s%left {
					t.Fatalf("Pick(%v, %v) = %v: shard %d of %v", l, alive, p, s, c.Owners[s])
				}
			}
		}
	}
}
