package stream_test

import (
	"math"
	"reflect"
	"slices"
	"strconv"
	"testing"

	"potsherd/api"
	"potsherd/stream"
	"potsherd/wire"
)

var mine = api.Stream{Query: api.Qid{Boot: 3, N: 4}, Attempt: 2, From: 1, To: 5}

// others are streams that are all but mine.
func others() map[string]api.Stream {
	return map[string]api.Stream{
		"another opening":        {Query: api.Qid{Boot: 2, N: 4}, Attempt: 2, From: 1, To: 5},
		"another query":          {Query: api.Qid{Boot: 3, N: 5}, Attempt: 2, From: 1, To: 5},
		"another attempt":        {Query: api.Qid{Boot: 3, N: 4}, Attempt: 1, From: 1, To: 5},
		"from another fragment":  {Query: api.Qid{Boot: 3, N: 4}, Attempt: 2, From: 0, To: 5},
		"to another fragment":    {Query: api.Qid{Boot: 3, N: 4}, Attempt: 2, From: 1, To: 6},
		"to the coordinator":     {Query: api.Qid{Boot: 3, N: 4}, Attempt: 2, From: 1, To: -1},
		"the other way round":    {Query: api.Qid{Boot: 3, N: 4}, Attempt: 2, From: 5, To: 1},
		"numbers of a query":     {Query: api.Qid{Boot: 4, N: 3}, Attempt: 2, From: 1, To: 5},
		"of nothing at all":      {},
		"of numbers far outside": {Query: api.Qid{Boot: math.MaxUint64, N: math.MaxUint64}, Attempt: math.MinInt, From: math.MaxInt, To: math.MinInt},
	}
}

// rows are those of the numbers from a on, b not with them.
func rows(a, b int) (l []api.Row) {
	for n := a; n < b; n++ {
		l = append(l, api.Row{{Kind: api.KindInt, N: int64(n)}, {Kind: api.KindText, S: "row " + strconv.Itoa(n)}, {}})
	}
	return l
}

// sized is a stream of batches of that many rows each.
func sized(acked uint64, sizes ...int) api.Out {
	o := api.Out{Stream: mine, Acked: acked}
	at := 0
	for _, n := range sizes {
		o.Batches = append(o.Batches, rows(at, at+n))
		at += n
	}
	return o
}

// full are n batches, all full but the last one, which has that many rows.
func full(n, last int) []int { return append(slices.Repeat([]int{8}, n-1), last) }

// rightOuts are streams that are.
func rightOuts() map[string]api.Out {
	odd := sized(0, 4)
	odd.Batches[0] = []api.Row{nil, {}, {{Kind: 99, B: true, N: 7, S: "\xff"}}, make(api.Row, 100)}
	return map[string]api.Out{
		"one without rows":             sized(0, 0),
		"one without rows, which came": sized(1, 0),
		"a row":                        sized(0, 1),
		"nearly full":                  sized(1, 7),
		"just one, full":               sized(0, 8),
		"one over":                     sized(0, 8, 1),
		"one over, and half came":      sized(1, 8, 1),
		"two, full":                    sized(2, 8, 8),
		"some":                         sized(3, 8, 8, 8, 8, 8, 8, 2),
		"as many as may be":            sized(0, full(512, 8)...),
		"as many, the last of a row":   sized(511, full(512, 1)...),
		"as many, all came":            sized(512, full(512, 8)...),
		"of no stream":                 {Batches: [][]api.Row{rows(0, 3)}},
		"of any numbers":               {Stream: others()["of numbers far outside"], Batches: [][]api.Row{nil}},
		"of rows that are not right":   odd,
	}
}

// wrongOuts are streams that are not right.
func wrongOuts() map[string]api.Out {
	return map[string]api.Out{
		"nothing":                          {},
		"no batches":                       sized(0),
		"no batches, not nil":              {Stream: mine, Batches: [][]api.Row{}},
		"no batches, one came":             sized(1),
		"one more":                         sized(0, full(513, 8)...),
		"one more, the last of a row":      sized(0, full(513, 1)...),
		"far more":                         sized(0, full(2000, 8)...),
		"a row too many":                   sized(0, 9),
		"a row too many in the last":       sized(0, 8, 9),
		"a row too many in the first":      sized(0, 9, 8),
		"a row too many between":           sized(0, 8, 9, 8),
		"far too many":                     sized(0, 5000),
		"a row too few in the first":       sized(0, 7, 8),
		"a row too few between":            sized(0, 8, 7, 8),
		"too few ahead of the last":        sized(0, 8, 8, 7, 1),
		"as many, but fewer":               sized(0, 7, 7),
		"as many, but fewer, the last too": sized(0, 4, 4, 2),
		"the first one empty":              sized(0, 0, 8),
		"one between empty":                sized(0, 8, 0, 8),
		"the last one empty":               sized(0, 8, 0),
		"the last of many empty":           sized(0, full(512, 0)...),
		"both empty":                       sized(0, 0, 0),
		"more came":                        sized(2, 8),
		"more came of nothing":             sized(2, 0),
		"more came of two":                 sized(3, 8, 1),
		"more came of as many":             sized(513, full(512, 8)...),
		"far more came":                    sized(math.MaxUint64, 8, 8),
		"more came than may be":            sized(1<<63, 8, 8),
	}
}

func TestCut(t *testing.T) { // 13.1
	for n, sizes := range map[int][]int{
		0: {0}, 1: {1}, 7: {7}, 8: {8}, 9: {8, 1}, 15: {8, 7}, 16: {8, 8}, 17: {8, 8, 1}, 50: {8, 8, 8, 8, 8, 8, 2},
		4088: full(511, 8), 4089: full(512, 1), 4095: full(512, 7), 4096: full(512, 8),
	} {
		got, why := stream.Cut(mine, rows(0, n))
		if want := sized(0, sizes...); why != api.OK || !alike(got, want) {
			t.Errorf("%d rows: Cut is %v, error %d", n, got, why)
		}
		if why := stream.CheckOut(got); why != api.OK {
			t.Errorf("%d rows: CheckOut of Cut: error %d", n, why)
		}
	}
	for _, n := range []int{4097, 4098, 4104, 10000} {
		if got, why := stream.Cut(mine, rows(0, n)); why != api.ErrMany || !reflect.DeepEqual(got, api.Out{}) {
			t.Errorf("%d rows: Cut is %v, error %d", n, got, why)
		}
	}
}

func TestCutOfAnyStream(t *testing.T) { // 13.1
	for name, s := range others() {
		got, why := stream.Cut(s, rows(0, 9))
		want := sized(0, 8, 1)
		want.Stream = s
		if why != api.OK || !alike(got, want) {
			t.Errorf("%s: Cut is %v, error %d", name, got, why)
		}
	}
	odd := []api.Row{nil, {{Kind: 99, B: true, N: 7, S: "\xff"}}, {}, nil, nil, nil, nil, nil, {{Kind: api.KindInt, S: "x"}}}
	got, why := stream.Cut(mine, odd)
	if want := (api.Out{Stream: mine, Batches: [][]api.Row{odd[:8], odd[8:]}}); why != api.OK || !alike(got, want) {
		t.Errorf("rows that are not right: Cut is %v, error %d", got, why)
	}
}

func TestCheckOut(t *testing.T) { // 13.1
	for name, o := range rightOuts() {
		if why := stream.CheckOut(o); why != api.OK {
			t.Errorf("%s: error %d", name, why)
		}
	}
	for name, o := range wrongOuts() {
		if why := stream.CheckOut(o); why != api.ErrState {
			t.Errorf("%s: error %d", name, why)
		}
	}
}

func TestSend(t *testing.T) { // 13.1, 13.5
	for name, x := range map[string]struct {
		o    api.Out
		seqs []uint64
		last bool // the last one of these is the last of all
	}{
		"one without rows":             {sized(0, 0), []uint64{0}, true},
		"one without rows, which came": {sized(1, 0), nil, false},
		"one":                          {sized(0, 3), []uint64{0}, true},
		"one that came":                {sized(1, 3), nil, false},
		"one over":                     {sized(0, 8, 1), []uint64{0, 1}, true},
		"one over is left":             {sized(1, 8, 1), []uint64{1}, true},
		"three":                        {sized(0, full(3, 8)...), []uint64{0, 1, 2}, true},
		"as many as credits":           {sized(0, full(4, 8)...), []uint64{0, 1, 2, 3}, true},
		"one more than credits":        {sized(0, full(5, 8)...), []uint64{0, 1, 2, 3}, false},
		"one more, one came":           {sized(1, full(5, 8)...), []uint64{1, 2, 3, 4}, true},
		"some":                         {sized(0, full(7, 2)...), []uint64{0, 1, 2, 3}, false},
		"some, some came":              {sized(2, full(7, 2)...), []uint64{2, 3, 4, 5}, false},
		"some, the last ones":          {sized(3, full(7, 2)...), []uint64{3, 4, 5, 6}, true},
		"some, fewer than credits":     {sized(4, full(7, 2)...), []uint64{4, 5, 6}, true},
		"some, the last one":           {sized(6, full(7, 2)...), []uint64{6}, true},
		"some, all came":               {sized(7, full(7, 2)...), nil, false},
		"as many as may be":            {sized(0, full(512, 8)...), []uint64{0, 1, 2, 3}, false},
		"as many, nearly all came":     {sized(507, full(512, 8)...), []uint64{507, 508, 509, 510}, false},
		"as many, all but credits":     {sized(508, full(512, 8)...), []uint64{508, 509, 510, 511}, true},
		"as many, all but one":         {sized(511, full(512, 8)...), []uint64{511}, true},
		"as many, all came":            {sized(512, full(512, 8)...), nil, false},
	} {
		var want []api.Msg
		for k, seq := range x.seqs {
			want = append(want, api.Msg{Kind: api.MsgBatch, Stream: mine, Seq: seq, Last: x.last && k == len(x.seqs)-1, Rows: x.o.Batches[seq]})
		}
		got, why := stream.Send(x.o)
		if why != api.OK || !alike(got, want) {
			t.Errorf("%s: Send is %v, error %d", name, got, why)
		}
		for _, m := range got {
			if wire.Check(m) != api.OK {
				t.Errorf("%s: %v is no right message", name, m)
			}
		}
	}
}

func TestSendOfAnyStream(t *testing.T) { // 13.1, P2
	for name, o := range rightOuts() {
		got, why := stream.Send(o)
		if n := min(4, len(o.Batches)-int(o.Acked)); why != api.OK || len(got) != n {
			t.Errorf("%s: Send is %v, error %d", name, got, why)
		}
		for k, m := range got {
			seq := o.Acked + uint64(k)
			if want := (api.Msg{Kind: api.MsgBatch, Stream: o.Stream, Seq: seq, Last: int(seq) == len(o.Batches)-1, Rows: o.Batches[seq]}); !alike(m, want) {
				t.Errorf("%s: Send is %v; not %v", name, m, want)
			}
		}
	}
	for name, o := range wrongOuts() {
		if got, why := stream.Send(o); why != api.ErrState || got != nil {
			t.Errorf("%s: Send is %v, error %d", name, got, why)
		}
	}
}

func TestAcked(t *testing.T) { // 13.1
	for name, x := range map[string]struct {
		o    api.Out
		seq  uint64
		want uint64
	}{
		"nothing":                   {sized(0, full(7, 2)...), 0, 0},
		"one":                       {sized(0, full(7, 2)...), 1, 1},
		"more":                      {sized(1, full(7, 2)...), 4, 4},
		"as many as before":         {sized(4, full(7, 2)...), 4, 4},
		"less than before":          {sized(4, full(7, 2)...), 3, 3},
		"none any more":             {sized(7, full(7, 2)...), 0, 0},
		"all":                       {sized(4, full(7, 2)...), 7, 7},
		"all again":                 {sized(7, full(7, 2)...), 7, 7},
		"one more than all":         {sized(4, full(7, 2)...), 8, 4},
		"one more, all having come": {sized(7, full(7, 2)...), 8, 7},
		"far more":                  {sized(4, full(7, 2)...), math.MaxUint64, 4},
		"more than an int has":      {sized(4, full(7, 2)...), 1 << 63, 4},
		"the only one":              {sized(0, 0), 1, 1},
		"more than the only one":    {sized(0, 0), 2, 0},
		"all of as many as may be":  {sized(508, full(512, 8)...), 512, 512},
		"one more than may be":      {sized(508, full(512, 8)...), 513, 508},
	} {
		want := x.o
		want.Acked = x.want
		if got := stream.Acked(x.o, mine, x.seq); !alike(got, want) {
			t.Errorf("%s: Acked is %v", name, got)
		}
		for other, s := range others() {
			if got := stream.Acked(x.o, s, x.seq); !alike(got, x.o) {
				t.Errorf("%s, %s: Acked is %v", name, other, got)
			}
		}
	}
}

func TestAckedOfWrongStreams(t *testing.T) { // 13.1: it is not asked whether o is right
	for name, o := range wrongOuts() {
		for _, seq := range []uint64{0, 1, uint64(len(o.Batches)), uint64(len(o.Batches)) + 1, math.MaxUint64} {
			want := o
			if seq <= uint64(len(o.Batches)) {
				want.Acked = seq
			}
			if got := stream.Acked(o, o.Stream, seq); !alike(got, want) {
				t.Errorf("%s: Acked %d is %v", name, seq, got)
			}
			if got := stream.Acked(o, others()["another attempt"], seq); !alike(got, o) {
				t.Errorf("%s: Acked %d of another attempt is %v", name, seq, got)
			}
		}
	}
}
