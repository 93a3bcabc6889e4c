package value_test

import (
	"strings"
	"testing"

	"potsherd/api"
	"potsherd/value"
)

func boolean(b bool) api.Value { return api.Value{Kind: api.KindBool, B: b} }
func whole(n int64) api.Value  { return api.Value{Kind: api.KindInt, N: n} }
func text(s string) api.Value  { return api.Value{Kind: api.KindText, S: s} }

// long is a text of n bytes, some of which are in runes of several bytes.
func long(n int) string { return strings.Repeat("é", n/2) + strings.Repeat("a", n%2) }

func TestCheck(t *testing.T) { // 1.1
	for name, x := range map[string]struct {
		v    api.Value
		want api.Errno
	}{
		"null":                {api.Value{}, api.OK},
		"false":               {boolean(false), api.OK},
		"true":                {boolean(true), api.OK},
		"nought":              {whole(0), api.OK},
		"least":               {whole(-1 << 63), api.OK},
		"most":                {whole(1<<63 - 1), api.OK},
		"empty text":          {text(""), api.OK},
		"text at limit":       {text(long(api.MaxText)), api.OK},
		"text past limit":     {text(long(api.MaxText + 1)), api.ErrLong},
		"rune 65533 itself":   {text("\uFFFD"), api.OK},
		"rune nought":         {text("\x00"), api.OK},
		"bad byte":            {text("a\xff"), api.ErrUtf},
		"half a rune":         {text("\xc3"), api.ErrUtf},
		"surrogate":           {text("\xed\xa0\x80"), api.ErrUtf},
		"overlong nought":     {text("\xc0\x80"), api.ErrUtf},
		"long ahead of bad":   {text(strings.Repeat("\xff", api.MaxText+1)), api.ErrLong},
		"bad at limit":        {text(strings.Repeat("\xff", api.MaxText)), api.ErrUtf},
		"KindCount":           {api.Value{Kind: api.KindCount}, api.ErrType},
		"kind 255":            {api.Value{Kind: 255}, api.ErrType},
		"null with B":         {api.Value{B: true}, api.ErrType},
		"null with N":         {api.Value{N: 1}, api.ErrType},
		"null with S":         {api.Value{S: "a"}, api.ErrType},
		"bool with N":         {api.Value{Kind: api.KindBool, N: -1}, api.ErrType},
		"bool with S":         {api.Value{Kind: api.KindBool, S: "a"}, api.ErrType},
		"int with B":          {api.Value{Kind: api.KindInt, B: true}, api.ErrType},
		"int with S":          {api.Value{Kind: api.KindInt, S: "a"}, api.ErrType},
		"text with B":         {api.Value{Kind: api.KindText, B: true}, api.ErrType},
		"text with N":         {api.Value{Kind: api.KindText, N: 1}, api.ErrType},
		"type ahead of long":  {api.Value{Kind: api.KindInt, S: long(api.MaxText + 1)}, api.ErrType},
		"type ahead of utf":   {api.Value{Kind: api.KindText, N: 1, S: "\xff"}, api.ErrType},
		"no kind, and a text": {api.Value{Kind: api.KindCount, S: "\xff"}, api.ErrType},
	} {
		if why := value.Check(x.v); why != x.want {
			t.Errorf("Check, %s: error %d, not %d", name, why, x.want)
		}
	}
}

// columns are n right ones, with names a, b, ..
func columns(n int) []api.Col {
	var l []api.Col
	for i := range n {
		l = append(l, api.Col{Name: string(rune('a' + i)), Kind: api.KindBool + api.Kind(i%3)})
	}
	return l
}

func TestCheckCols(t *testing.T) { // 1.1
	one := func(name string, k api.Kind) []api.Col { return []api.Col{{Name: name, Kind: k}} }
	for name, x := range map[string]struct {
		l    []api.Col
		want api.Errno
	}{
		"none":              {nil, api.ErrMany},
		"empty":             {[]api.Col{}, api.ErrMany},
		"one":               {columns(1), api.OK},
		"at limit":          {columns(api.MaxCols), api.OK},
		"past limit":        {columns(api.MaxCols + 1), api.ErrMany},
		"many ahead of all": {make([]api.Col, api.MaxCols+1), api.ErrMany},
		"bool":              {one("k", api.KindBool), api.OK},
		"int":               {one("k", api.KindInt), api.OK},
		"text":              {one("k", api.KindText), api.OK},
		"null":              {one("k", api.KindNull), api.ErrType},
		"KindCount":         {one("k", api.KindCount), api.ErrType},
		"kind 255":          {one("k", 255), api.ErrType},
		"no name":           {one("", api.KindInt), api.ErrLong},
		"name at limit":     {one(long(64), api.KindInt), api.OK},
		"name past limit":   {one(long(65), api.KindInt), api.ErrLong},
		"any name":          {one("( \"", api.KindInt), api.OK},
		"bad name":          {one("a\xff", api.KindInt), api.ErrUtf},
		"long ahead of utf": {one(strings.Repeat("\xff", 65), 0), api.ErrLong},
		"utf ahead of type": {one("\xff", 0), api.ErrUtf},
		"twice":             {append(columns(3), columns(1)...), api.ErrTwice},
		"twice ahead of type": {
			append(columns(2), api.Col{Name: "b"}), api.ErrTwice},
		"the second one is told": {
			[]api.Col{{Name: "a"}, {Name: "a", Kind: api.KindInt}}, api.ErrType},
		"the first column's error": {
			[]api.Col{{Name: "a"}, {Name: ""}}, api.ErrType},
		"the first column's error, turned": {
			[]api.Col{{Name: ""}, {Name: "a"}}, api.ErrLong},
		"bad ones twice": {
			[]api.Col{{Name: "a", Kind: api.KindInt}, {Name: "\xff", Kind: api.KindInt}, {Name: "\xff"}}, api.ErrUtf},
		"alike but for case": {
			[]api.Col{{Name: "a", Kind: api.KindInt}, {Name: "A", Kind: api.KindInt}}, api.OK},
	} {
		if why := value.CheckCols(x.l); why != x.want {
			t.Errorf("CheckCols, %s: error %d, not %d", name, why, x.want)
		}
	}
}

func TestCheckRow(t *testing.T) { // 1.1
	l := columns(3) // bool, int, text
	for name, x := range map[string]struct {
		r    api.Row
		l    []api.Col
		want api.Errno
	}{
		"right":              {api.Row{boolean(true), whole(7), text("a")}, l, api.OK},
		"nulls":              {api.Row{{}, {}, {}}, l, api.OK},
		"one too few":        {api.Row{{}, {}}, l, api.ErrMany},
		"one too many":       {api.Row{{}, {}, {}, {}}, l, api.ErrMany},
		"none":               {nil, l, api.ErrMany},
		"none of none":       {nil, nil, api.OK},
		"empty of none":      {api.Row{}, nil, api.OK},
		"one of none":        {api.Row{{}}, nil, api.ErrMany},
		"many ahead of type": {api.Row{{N: 1}}, l, api.ErrMany},
		"other kind":         {api.Row{whole(1), {}, {}}, l, api.ErrType},
		"last of other kind": {api.Row{{}, {}, whole(1)}, l, api.ErrType},
		"no kind":            {api.Row{{Kind: api.KindCount}, {}, {}}, l, api.ErrType},
		"long":               {api.Row{{}, {}, text(long(257))}, l, api.ErrLong},
		"bad":                {api.Row{{}, {}, text("\xff")}, l, api.ErrUtf},
		"check ahead of kind": {
			api.Row{text("\xff"), {}, {}}, l, api.ErrUtf},
		"value by value": {
			api.Row{whole(1), {}, text("\xff")}, l, api.ErrType},
		"value by value, turned": {
			api.Row{{}, text("\xff"), whole(1)}, l, api.ErrUtf},
		"a column of no kind": {
			api.Row{{Kind: 9}}, []api.Col{{Kind: 9}}, api.ErrType},
		"columns that are not right are taken": {
			api.Row{{}, whole(1)}, []api.Col{{Kind: 9}, {Kind: api.KindInt}}, api.OK},
	} {
		if why := value.CheckRow(x.r, x.l); why != x.want {
			t.Errorf("CheckRow, %s: error %d, not %d", name, why, x.want)
		}
	}
}

// rows are n right ones of columns(2).
func rows(n int) []api.Row {
	var l []api.Row
	for i := range n {
		l = append(l, api.Row{{}, whole(int64(i))})
	}
	return l
}

func TestCheckTable(t *testing.T) { // 1.1
	cols := columns(2)
	wrong := append(rows(2), api.Row{{}, text("\xff")}, api.Row{})
	for name, x := range map[string]struct {
		t    api.Table
		want api.Errno
	}{
		"without rows":    {api.Table{Name: "t", Cols: cols}, api.OK},
		"rows at limit":   {api.Table{Name: "t", Cols: cols, Rows: rows(api.MaxRows)}, api.OK},
		"rows past limit": {api.Table{Name: "t", Cols: cols, Rows: rows(api.MaxRows + 1)}, api.ErrMany},
		"zero":            {api.Table{}, api.ErrLong},
		"name at limit":   {api.Table{Name: long(64), Cols: cols}, api.OK},
		"name past limit": {api.Table{Name: long(65), Cols: cols}, api.ErrLong},
		"bad name":        {api.Table{Name: "\xff", Cols: cols}, api.ErrUtf},
		"long ahead of utf": {
			api.Table{Name: strings.Repeat("\xff", 65), Cols: cols}, api.ErrLong},
		"name ahead of columns": {
			api.Table{Name: "\xff"}, api.ErrUtf},
		"columns": {
			api.Table{Name: "t", Cols: append(columns(1), columns(1)...)}, api.ErrTwice},
		"columns ahead of rows": {
			api.Table{Name: "t", Rows: rows(api.MaxRows + 1), Cols: []api.Col{{}}}, api.ErrLong},
		"how many rows ahead of a row": {
			api.Table{Name: "t", Cols: cols, Rows: make([]api.Row, api.MaxRows+1)}, api.ErrMany},
		"the first row's error": {
			api.Table{Name: "t", Cols: cols, Rows: wrong}, api.ErrUtf},
		"a row that is none": {
			api.Table{Name: "t", Cols: cols, Rows: []api.Row{nil}}, api.ErrMany},
	} {
		if why := value.CheckTable(x.t); why != x.want {
			t.Errorf("CheckTable, %s: error %d, not %d", name, why, x.want)
		}
	}
}
