package exec_test

import (
	"math"
	"slices"
	"strings"
	"testing"

	"potsherd/api"
	"potsherd/exec"
)

func wantFinish(t *testing.T, query string, rows []api.Row, want ...api.Row) {
	t.Helper()
	got, why := exec.Finish(bound(t, query), catalog(), rows)
	if why != api.OK || !same(got, want) {
		t.Errorf("%s of %v: %v, error %d; not %v", query, rows, got, why, want)
	}
}

func TestFinishOfRows(t *testing.T) { // 8.2: in order
	wantFinish(t, "(from t (get k s))", []api.Row{row(2, "a"), row(nil, "b"), row(1, "é"), row(1, nil), row(2, "a"), row(-5, "")},
		row(nil, "b"), row(-5, ""), row(1, nil), row(1, "é"), row(2, "a"), row(2, "a"))
	wantFinish(t, "(from t (get null (null? a)))", []api.Row{row(nil, true), row(nil, false), row(nil, nil)}, row(nil, nil), row(nil, false), row(nil, true))
	for _, none := range [][]api.Row{nil, {}} {
		wantFinish(t, "(from t)", none)
	}
	// Where is asked where the rows are, not again.
	wantFinish(t, "(from t (where false) (get k))", []api.Row{row(1)}, row(1))
}

func TestFinishOfGroups(t *testing.T) { // 8.2: put together
	const query = "(from t (group k s) (get (count) s (sum a) (min b) k (max s) s))"
	one := func(k, s any, count, values, high, low, bools int, least any, texts int, greatest any) api.Row {
		none := row(0, 0, 0, nil)
		return slices.Concat(row(k, s), row(count, 0, 0, nil), none, row(values, high, low, nil), row(bools, 0, 0, least), none, row(texts, 0, 0, greatest), none)
	}
	wantFinish(t, query, []api.Row{one(1, "a", 2, 1, 0, 5, 1, true, 2, "a")}, row(2, "a", 5, true, 1, "a", "a"))
	wantFinish(t, query, []api.Row{
		one(2, "a", 2, 2, 0, 5, 1, true, 2, "p"),
		one(1, nil, 3, 0, 0, 0, 0, nil, 0, nil),
		one(2, "a", 3, 1, -1, 1<<32-1, 3, false, 1, "q"),
		one(nil, "a", 1, 1, 0, 7, 1, false, 1, "a"),
		one(1, nil, 4, 0, 0, 0, 2, true, 1, "x"),
		one(2, "a", 1, 0, 0, 0, 0, nil, 1, "é"),
	}, row(1, "a", 7, false, nil, "a", "a"), row(6, "a", 4, false, 2, "é", "a"), row(7, nil, nil, true, 1, "x", nil))
	wantFinish(t, "(from t (group b) (get b))", []api.Row{row(true, 0, 0, 0, nil), row(nil, 0, 0, 0, nil), row(true, 0, 0, 0, nil), row(false, 0, 0, 0, nil)},
		row(nil), row(false), row(true))
	// Rows of an answer may be alike, where groups are not; they are in the answer's order, not in the groups'.
	wantFinish(t, "(from t (group k) (get (count)))", []api.Row{row(1, 7, 0, 0, nil), row(2, 3, 0, 0, nil), row(3, 3, 0, 0, nil), row(1, 1, 0, 0, nil)}, row(3), row(3), row(8))
	wantFinish(t, "(from t (group k) (get (count)))", []api.Row{row(1, 0, 0, 0, nil)}, row(0))
	// Without Group's columns there is one.
	wantFinish(t, "(from t (get (count) (max a)))", []api.Row{row(1, 0, 0, nil, 1, 0, 0, -7), row(0, 0, 0, nil, 0, 0, 0, nil), row(5, 0, 0, nil, 2, 0, 0, -9)}, row(6, -7))
	for _, none := range [][]api.Row{nil, {}} {
		wantFinish(t, "(from t (get (count) (sum a) (min k) (max s)))", none, row(0, nil, nil, nil))
		wantFinish(t, "(from t (group k) (get (count) (sum a) (min k) (max s)))", none)
	}
	wantFinish(t, "(from t (get (sum a)))", []api.Row{row(1, 0, 1, nil), row(1, 0, 2, nil)}, row(3)) // the chapter's example
}

func TestFinishOfSums(t *testing.T) { // 8.2: at both ends of 64 bits, beyond, and beyond in between alone
	const low = 1<<32 - 1
	const most, least = math.MaxInt64, math.MinInt64
	for _, x := range []struct {
		sums [][2]int
		want any
	}{
		{[][2]int{{0, 0}}, 0},
		{[][2]int{{-1, low}}, -1},
		{[][2]int{{1<<31 - 1, low}}, most},
		{[][2]int{{1 << 31, 0}}, nil},
		{[][2]int{{1<<31 - 1, low}, {0, 1}}, nil},
		{[][2]int{{1<<31 - 1, low - 1}, {0, 1}}, most},
		{[][2]int{{-1 << 31, 0}}, least},
		{[][2]int{{-1<<31 - 1, low}}, nil},
		{[][2]int{{-1 << 31, 0}, {-1, low}}, nil},
		{[][2]int{{-1 << 31, 1}, {-1, low}}, least},
		{[][2]int{{1 << 31, 0}, {-1, low}}, most},
		{[][2]int{{-1<<31 - 1, low}, {0, 1}}, least},
		{[][2]int{{1 << 44, low}, {-1 << 44, 0}}, low},
		{[][2]int{{1 << 44, 0}}, nil},
		{[][2]int{{-1 << 44, 0}}, nil},
		{[][2]int{{1 << 44, 5}, {1 << 44, 7}, {-1 << 44, 1}, {-1 << 44, low}}, 12 + 1<<32},
		{[][2]int{{0, low}, {0, low}, {0, low}}, 3 * low},
		{slices.Repeat([][2]int{{1 << 44, low}}, api.MaxAnswer), nil},
		{slices.Repeat([][2]int{{-1 << 44, 0}}, api.MaxAnswer), nil},
		{slices.Repeat([][2]int{{1 << 44, low}, {-1 << 44, 1}}, api.MaxAnswer/2), 1 << 43},
	} {
		var rows []api.Row
		for _, s := range x.sums {
			rows = append(rows, row(1, s[0], s[1], nil))
		}
		wantFinish(t, "(from t (get (sum a)))", rows, row(x.want))
		if len(rows) < api.MaxAnswer { // those without values change nothing
			wantFinish(t, "(from t (get (sum a)))", append(rows, row(0, 0, 0, nil)), row(x.want))
		}
		slices.Reverse(rows)
		wantFinish(t, "(from t (get (sum a)))", rows, row(x.want))
	}
}

func TestFinishOfTheMost(t *testing.T) { // 8.2: as many rows as may be, and one more
	rows, groups := slices.Repeat([]api.Row{row(1)}, api.MaxAnswer), slices.Repeat([]api.Row{row(api.MaxAnswer, 0, 0, nil)}, api.MaxAnswer)
	wantFinish(t, "(from t (get k))", rows, rows...)
	wantFinish(t, "(from t (get (count)))", groups, row(1<<24))
	var many []api.Row
	for i := range api.MaxAnswer {
		many = append(many, row(api.MaxAnswer-i, 0, 0, 0, nil))
	}
	got, why := exec.Finish(bound(t, "(from t (group k) (get k))"), catalog(), many)
	if why != api.OK || len(got) != api.MaxAnswer || got[0][0] != whole(1) || got[api.MaxAnswer-1][0] != whole(api.MaxAnswer) {
		t.Errorf("%d rows, error %d", len(got), why)
	}
	for query, l := range map[string][]api.Row{
		"(from t (get k))":               append(rows, row(1)),
		"(from t (get (count)))":         append(groups, row(1, 0, 0, nil)),
		"(from t (group k) (get k))":     make([]api.Row, api.MaxAnswer+1), // ahead of ErrType
		"(from t (get (sum a) (max b)))": make([]api.Row, 1<<15),
	} {
		if got, why := exec.Finish(bound(t, query), catalog(), l); why != api.ErrMany || len(got) != 0 {
			t.Errorf("%s of %d rows: %d rows, error %d", query, len(l), len(got), why)
		}
		if got, why := exec.Finish(api.Bound{}, catalog(), l); why != api.ErrState || len(got) != 0 {
			t.Errorf("%s of %d rows: %d rows, error %d", query, len(l), len(got), why)
		}
	}
}

func TestFinishErrors(t *testing.T) { // 8.2, P2: rows that are not right
	const plain, group = "(from t (get k s b null))", "(from t (group s) (get (count) s (sum a) (min k) (max s) (max null)))"
	good := func() api.Row {
		return slices.Concat(row("g"), row(3, 0, 0, nil), row(0, 0, 0, nil), row(2, -1, 7, nil), row(2, 0, 0, -4), row(3, 0, 0, "g"), row(0, 0, 0, nil))
	}
	// with is the group's row with other values from a place on.
	with := func(place int, l ...any) api.Row {
		r := good()
		copy(r[place:], row(l...))
		return r
	}
	const count, none, sum, least, greatest, nulls = 1, 5, 9, 13, 17, 21
	const low = 1 << 32
	for name, x := range map[string]struct {
		query string
		r     api.Row
		want  api.Errno
	}{
		"right":                              {plain, row(1, "a", true, nil), api.OK},
		"all null":                           {plain, row(nil, nil, nil, nil), api.OK},
		"short":                              {plain, row(1, "a", true), api.ErrType},
		"long":                               {plain, row(1, "a", true, nil, nil), api.ErrType},
		"empty":                              {plain, nil, api.ErrType},
		"of another kind":                    {plain, row("1", "a", true, nil), api.ErrType},
		"of another kind, the last":          {plain, row(1, "a", 1, nil), api.ErrType},
		"not null":                           {plain, row(1, "a", true, 1), api.ErrType},
		"a bad text":                         {plain, row(1, "\xff", true, nil), api.ErrType},
		"a long text":                        {plain, row(1, strings.Repeat("a", 257), true, nil), api.ErrType},
		"a text as long as may be":           {plain, row(1, strings.Repeat("a", 256), true, nil), api.OK},
		"no kind":                            {plain, api.Row{{Kind: 9}, null(), null(), null()}, api.ErrType},
		"a field too many":                   {plain, api.Row{{Kind: api.KindInt, B: true}, null(), null(), null()}, api.ErrType},
		"a group":                            {group, good(), api.OK},
		"a group in a plain one":             {plain, good(), api.ErrType},
		"a plain one in a group":             {group, row(1, "a", 1, 1, "a", nil), api.ErrType},
		"a group, empty":                     {group, nil, api.ErrType},
		"a group, short":                     {group, good()[:24], api.ErrType},
		"a group, shorter":                   {group, good()[:21], api.ErrType},
		"a group, long":                      {group, append(good(), null()), api.ErrType},
		"a group, longer":                    {group, append(good(), row(0, 0, 0, nil)...), api.ErrType},
		"a group of null":                    {group, with(0, nil), api.OK},
		"a group of another kind":            {group, with(0, 1), api.ErrType},
		"a group of a bad text":              {group, with(0, "\xff"), api.ErrType},
		"count: none":                        {group, with(count, 0), api.OK},
		"count: the most":                    {group, with(count, api.MaxAnswer), api.OK},
		"count: more":                        {group, with(count, api.MaxAnswer+1), api.ErrType},
		"count: far more":                    {group, with(count, math.MaxInt64), api.ErrType},
		"count: less":                        {group, with(count, -1), api.ErrType},
		"count: null":                        {group, with(count, nil), api.ErrType},
		"count: a text":                      {group, with(count, "3"), api.ErrType},
		"count: high":                        {group, with(count, 3, 1), api.ErrType},
		"count: high is null":                {group, with(count, 3, nil), api.ErrType},
		"count: low":                         {group, with(count, 3, 0, 1), api.ErrType},
		"count: low is null":                 {group, with(count, 3, 0, nil), api.ErrType},
		"count: low is a bool":               {group, with(count, 3, 0, true), api.ErrType},
		"count: best":                        {group, with(count, 3, 0, 0, 1), api.ErrType},
		"count: none and high":               {group, with(count, 0, 1), api.ErrType},
		"none: count":                        {group, with(none, 1), api.ErrType},
		"none: high":                         {group, with(none, 0, 1), api.ErrType},
		"none: low":                          {group, with(none, 0, 0, 1), api.ErrType},
		"none: best":                         {group, with(none, 0, 0, 0, "g"), api.ErrType},
		"none: count is null":                {group, with(none, nil), api.ErrType},
		"none: all null":                     {group, with(none, nil, nil, nil, nil), api.ErrType},
		"none: count and best":               {group, with(none, 1, 0, 0, "g"), api.ErrType},
		"sum: the most":                      {group, with(sum, api.MaxAnswer, 1<<44, low-1), api.OK},
		"sum: the least":                     {group, with(sum, 1, -1<<44, 0), api.OK},
		"sum: count is more":                 {group, with(sum, api.MaxAnswer+1), api.ErrType},
		"sum: count is less":                 {group, with(sum, -1), api.ErrType},
		"sum: high is more":                  {group, with(sum, 1, 1<<44+1), api.ErrType},
		"sum: high is far more":              {group, with(sum, 1, math.MaxInt64), api.ErrType},
		"sum: high is less":                  {group, with(sum, 1, -1<<44-1), api.ErrType},
		"sum: high is far less":              {group, with(sum, 1, math.MinInt64), api.ErrType},
		"sum: low is more":                   {group, with(sum, 1, 1, low), api.ErrType},
		"sum: low is less":                   {group, with(sum, 1, 1, -1), api.ErrType},
		"sum: low is null":                   {group, with(sum, 1, 1, nil), api.ErrType},
		"sum: high is a text":                {group, with(sum, 1, "1"), api.ErrType},
		"sum: best":                          {group, with(sum, 1, 1, 1, 1), api.ErrType},
		"sum: nothing":                       {group, with(sum, 0, 0, 0, nil), api.OK},
		"sum: nothing and high":              {group, with(sum, 0, 1, 0, nil), api.ErrType},
		"sum: nothing and low":               {group, with(sum, 0, 0, 1, nil), api.ErrType},
		"sum: nothing and best":              {group, with(sum, 0, 0, 0, 1), api.ErrType},
		"sum: nought":                        {group, with(sum, 2, 0, 0, nil), api.OK},
		"least: the most":                    {group, with(least, api.MaxAnswer, 0, 0, 1), api.OK},
		"least: more":                        {group, with(least, api.MaxAnswer+1, 0, 0, 1), api.ErrType},
		"least: nothing":                     {group, with(least, 0, 0, 0, nil), api.OK},
		"least: nothing, but best":           {group, with(least, 0, 0, 0, 1), api.ErrType},
		"least: best is null":                {group, with(least, 1, 0, 0, nil), api.ErrType},
		"least: of another kind":             {group, with(least, 1, 0, 0, "1"), api.ErrType},
		"least: high":                        {group, with(least, 1, 1, 0, 1), api.ErrType},
		"least: low":                         {group, with(least, 1, 0, 1, 1), api.ErrType},
		"least: below":                       {group, with(least, -1, 0, 0, 1), api.ErrType},
		"greatest: nothing":                  {group, with(greatest, 0, 0, 0, nil), api.OK},
		"greatest: nothing, but best":        {group, with(greatest, 0, 0, 0, "a"), api.ErrType},
		"greatest: best is null":             {group, with(greatest, 1, 0, 0, nil), api.ErrType},
		"greatest: of another kind":          {group, with(greatest, 1, 0, 0, 1), api.ErrType},
		"greatest: a bad text":               {group, with(greatest, 1, 0, 0, "\xff"), api.ErrType},
		"greatest: a long text":              {group, with(greatest, 1, 0, 0, strings.Repeat("é", 129)), api.ErrType},
		"greatest: high":                     {group, with(greatest, 1, -1, 0, "a"), api.ErrType},
		"greatest: low":                      {group, with(greatest, 1, 0, 1, "a"), api.ErrType},
		"greatest of nulls":                  {group, with(nulls, 1, 0, 0, nil), api.ErrType},
		"greatest of nulls: a value":         {group, with(nulls, 1, 0, 0, 1), api.ErrType},
		"without Group's columns":            {"(from t (get (count)))", row(1, 0, 0, nil), api.OK},
		"without Group's columns: one more":  {"(from t (get (count)))", row(1, 1, 0, 0, nil), api.ErrType},
		"without Group's columns: the count": {"(from t (get (count)))", row(1), api.ErrType},
	} {
		fine := good()
		if x.query == plain {
			fine = row(nil, nil, nil, nil)
		}
		if len(x.r) < 6 && x.query != plain && x.query != group {
			fine = row(1, 0, 0, nil)
		}
		for _, rows := range [][]api.Row{{x.r}, {fine, x.r}, {x.r, fine}, {fine, fine, x.r}} {
			got, why := exec.Finish(bound(t, x.query), catalog(), rows)
			if why != x.want || why != api.OK && len(got) != 0 || why == api.OK && len(got) == 0 {
				t.Errorf("%s: %v, error %d; not %d", name, got, why, x.want)
			}
			wrong := bound(t, x.query)
			wrong.Grouped = !wrong.Grouped
			for _, b := range []api.Bound{{}, wrong} {
				if got, why := exec.Finish(b, catalog(), rows); why != api.ErrState || len(got) != 0 {
					t.Errorf("%s, of no query: %v, error %d", name, got, why)
				}
			}
			for _, cat := range [][]api.Table{nil, catalog()[:1], append(catalog(), catalog()[1]), make([]api.Table, 9)} {
				if got, why := exec.Finish(bound(t, x.query), cat, rows); why != api.ErrState || len(got) != 0 {
					t.Errorf("%s, of no catalog: %v, error %d", name, got, why)
				}
			}
		}
	}
}

func TestFinishOfWhatIsTooMuch(t *testing.T) { // 8.1, 8.2: a fragment may count more than Finish takes
	left, right := slices.Repeat([]api.Row{row(1, 1, "s", true)}, 65), slices.Repeat([]api.Row{row("s", 1)}, 64)
	b := bound(t, "(from t (join u s x) (get (count)))")
	for n, want := range map[int]api.Errno{64: api.OK, 65: api.ErrType} {
		sent, why := exec.Run(b, catalog(), api.Frag{}, left[:n], right)
		if why != api.OK || !same(sent[0], []api.Row{row(64*n, 0, 0, nil)}) {
			t.Fatalf("Run: %v, error %d", sent, why)
		}
		if rows, why := exec.Finish(b, catalog(), sent[0]); why != want {
			t.Errorf("Finish: %v, error %d; not %d", rows, why, want)
		}
	}
}
