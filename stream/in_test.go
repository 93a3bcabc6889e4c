package stream_test

import (
	"math"
	"reflect"
	"slices"
	"testing"

	"potsherd/api"
	"potsherd/stream"
	"potsherd/wire"
)

// batch is a message of my stream.
func batch(seq uint64, last bool, l []api.Row) api.Msg {
	return api.Msg{Kind: api.MsgBatch, Stream: mine, Seq: seq, Last: last, Rows: l}
}

// some is a batch of a few rows that tell its number.
func some(seq uint64) api.Msg { return batch(seq, false, rows(int(seq%1000)*8, int(seq%1000)*8+3)) }

func lastOne(seq uint64) api.Msg {
	m := some(seq)
	m.Last = true
	return m
}

// held are batches as they are held.
func held(l ...api.Msg) (all []api.Batch) {
	for _, m := range l {
		all = append(all, api.Batch{Seq: m.Seq, Last: m.Last, Rows: m.Rows})
	}
	return all
}

// received is my stream, of which n rows and all batches ahead of next came, and l ahead of others.
func received(next uint64, n int, l ...api.Msg) api.In {
	return api.In{Stream: mine, Next: next, Rows: rows(5000, 5000+n), Held: held(l...)}
}

func done(i api.In) api.In {
	i.Done = true
	return i
}

// rightIns are streams that are.
func rightIns() map[string]api.In {
	return map[string]api.In{
		"nothing":                        {},
		"nothing yet":                    received(0, 0),
		"a batch without rows":           received(1, 0),
		"a full batch":                   received(1, 8),
		"full batches":                   received(7, 56),
		"as many as may be":              received(512, 4096),
		"as many, without rows":          received(512, 0),
		"the next but one":               received(0, 0, some(1)),
		"the last of the credits":        received(0, 0, some(3)),
		"all that may be held":           received(0, 0, some(1), some(2), some(3)),
		"some that may be held":          received(9, 5, some(10), some(12)),
		"a full one held":                received(9, 5, batch(10, false, rows(0, 8))),
		"an empty one held":              received(9, 5, batch(10, false, nil)),
		"the last one held":              received(9, 5, lastOne(10)),
		"the last one behind others":     received(9, 5, some(10), some(11), lastOne(12)),
		"held near the end":              received(508, 5, some(509), some(510), lastOne(511)),
		"held where none may come":       received(511, 0, some(512), some(513), some(514)),
		"held where none may come still": received(512, 0, some(513)),
		"done":                           done(received(1, 0)),
		"done with a full batch":         done(received(1, 8)),
		"done with some":                 done(received(7, 50)),
		"done with as many as may be":    done(received(512, 4096)),
		"of no stream":                   {Next: 3, Rows: rows(0, 24)},
		"rows that are not right":        {Stream: mine, Next: 1, Rows: []api.Row{nil, {{Kind: 99, S: "\xff"}}}, Held: []api.Batch{{Seq: 2, Rows: []api.Row{{}, {{N: 4}}}}}},
	}
}

// wrongIns are streams that are not right.
func wrongIns() map[string]api.In {
	return map[string]api.In{
		"one batch more than may be":       received(513, 0),
		"far more":                         received(math.MaxUint64, 0),
		"far more, with rows":              received(1<<63, 8),
		"so many that they wrap round":     received(1<<61, 1),
		"a row of no batch":                received(0, 1),
		"a row more":                       received(1, 9),
		"a row more of some":               received(7, 57),
		"a row more of as many as may be":  received(512, 4097),
		"the next one held":                received(0, 0, some(0)),
		"the next one held, of some":       received(9, 5, some(9)),
		"one held that came":               received(9, 5, some(8)),
		"the first one held, that came":    received(9, 5, some(0)),
		"beyond the credits":               received(0, 0, some(4)),
		"beyond the credits, of some":      received(9, 5, some(13)),
		"far beyond the credits":           received(9, 5, some(math.MaxUint64)),
		"beyond the credits behind others": received(9, 5, some(10), some(11), some(12), some(13)),
		"falling":                          received(9, 5, some(11), some(10)),
		"falling at the end":               received(9, 5, some(10), some(12), some(11)),
		"one twice":                        received(9, 5, some(10), some(10)),
		"the last one twice":               received(9, 5, some(10), lastOne(11), lastOne(11)),
		"one held with a row more":         received(9, 5, batch(10, false, rows(0, 9))),
		"the second with a row more":       received(9, 5, some(10), batch(12, true, rows(0, 9))),
		"a last one ahead of another":      received(9, 5, lastOne(10), some(11)),
		"two last ones":                    received(9, 5, lastOne(10), lastOne(12)),
		"a last one between":               received(9, 5, some(10), lastOne(11), some(12)),
		"done with nothing":                done(received(0, 0)),
		"done, of no stream":               {Done: true},
		"done, one held":                   done(received(9, 5, some(10))),
		"done, the last one held":          done(received(9, 5, lastOne(10))),
		"done, and too many rows":          done(received(1, 9)),
		"done, and too many batches":       done(received(513, 8)),
	}
}

func TestCheckIn(t *testing.T) { // 13.2
	for name, i := range rightIns() {
		if why := stream.CheckIn(i); why != api.OK {
			t.Errorf("%s: error %d", name, why)
		}
	}
	for name, i := range wrongIns() {
		if why := stream.CheckIn(i); why != api.ErrState {
			t.Errorf("%s: error %d", name, why)
		}
	}
}

func takes(t *testing.T, name string, i api.In, m api.Msg, want api.In) {
	t.Helper()
	if got, why := stream.Take(i, m); why != api.OK || !alike(got, want) {
		t.Errorf("%s: Take is %v, error %d; not %v", name, got, why, want)
	}
}

// behind is i's stream with the rows of l behind its own, all ahead of next having come, and still held.
func behind(i api.In, next uint64, still []api.Batch, l ...api.Msg) api.In {
	i.Rows = slices.Clone(i.Rows)
	for _, m := range l {
		i.Rows = append(i.Rows, m.Rows...)
	}
	i.Next, i.Held = next, still
	return i
}

func TestTake(t *testing.T) { // 13.2
	none, i := received(0, 0), received(9, 5)
	takes(t, "the first", none, some(0), behind(none, 1, nil, some(0)))
	takes(t, "the first of no rows", none, batch(0, false, nil), received(1, 0))
	takes(t, "the only one", none, lastOne(0), done(behind(none, 1, nil, some(0))))
	takes(t, "the only one, without rows", none, batch(0, true, nil), done(received(1, 0)))
	takes(t, "a full one", i, batch(9, false, rows(0, 8)), behind(i, 10, nil, batch(9, false, rows(0, 8))))
	takes(t, "the next", i, some(9), behind(i, 10, nil, some(9)))
	takes(t, "the last", i, lastOne(9), done(behind(i, 10, nil, some(9))))
	takes(t, "the next but one", i, some(10), received(9, 5, some(10)))
	takes(t, "the last of the credits", i, some(12), received(9, 5, some(12)))
	takes(t, "a full one ahead", i, batch(12, false, rows(0, 8)), received(9, 5, batch(12, false, rows(0, 8))))
	takes(t, "a last one ahead", i, lastOne(11), received(9, 5, lastOne(11)))
	takes(t, "ahead of one held", received(9, 5, some(11)), some(10), received(9, 5, some(10), some(11)))
	takes(t, "behind one held", received(9, 5, some(11)), some(12), received(9, 5, some(11), some(12)))
	takes(t, "between two", received(9, 5, some(10), some(12)), some(11), received(9, 5, some(10), some(11), some(12)))
	takes(t, "a last one behind", received(9, 5, some(10)), lastOne(11), received(9, 5, some(10), lastOne(11)))
	takes(t, "one ahead of the last one", received(9, 5, lastOne(11)), some(10), received(9, 5, some(10), lastOne(11)))
}

func TestTakePutsTogether(t *testing.T) { // 13.2
	i := received(9, 5, some(10))
	takes(t, "one was held", i, some(9), behind(i, 11, nil, some(9), some(10)))
	i = received(9, 5, some(10), some(11), some(12))
	takes(t, "all were held", i, some(9), behind(i, 13, nil, some(9), some(10), some(11), some(12)))
	i = received(9, 5, some(10), lastOne(11))
	takes(t, "the last one was held", i, some(9), done(behind(i, 12, nil, some(9), some(10), some(11))))
	i = received(9, 5, some(11))
	takes(t, "one is missing still", i, some(9), behind(i, 10, held(some(11)), some(9)))
	i = received(9, 5, some(10), some(12))
	takes(t, "one between is missing still", i, some(9), behind(i, 11, held(some(12)), some(9), some(10)))
	i = received(9, 5, some(10), lastOne(12))
	takes(t, "one ahead of the last is missing still", i, some(9), behind(i, 11, held(lastOne(12)), some(9), some(10)))
	i = received(510, 7)
	takes(t, "the last but one of all", i, some(510), behind(i, 511, nil, some(510)))
	takes(t, "the last of all ahead", i, lastOne(511), received(510, 7, lastOne(511)))
	i = received(511, 7)
	takes(t, "the last of all", i, some(511), behind(i, 512, nil, some(511)))
	takes(t, "the last of all, which says so", i, lastOne(511), done(behind(i, 512, nil, some(511))))
	i = received(508, 7, some(509), some(510), lastOne(511))
	takes(t, "the last of all was held", i, some(508), done(behind(i, 512, nil, some(508), some(509), some(510), some(511))))
	// Held batches have no upper bound of their own, and each is passed on as soon as nothing is missing.
	i = received(511, 7, some(512), some(514))
	takes(t, "one was held where none may come", i, some(511), behind(i, 513, held(some(514)), some(511), some(512)))
}

func TestTakeLooksAtNothingElse(t *testing.T) { // 13.2: other fields of a message, and whether its values are right, are no matter
	odd := []api.Row{nil, {}, {{Kind: 99, B: true, N: 7, S: "\xff"}}}
	m := batch(0, true, odd)
	m.Boot, m.Nodes, m.File.Table, m.Claims = 7, []int{1}, "t", []api.Claim{{}}
	takes(t, "a batch with more", received(0, 0), m, api.In{Stream: mine, Next: 1, Rows: odd, Done: true})
	zero := api.Msg{Kind: api.MsgBatch, Last: true}
	takes(t, "of the zero stream", api.In{}, zero, api.In{Next: 1, Done: true})
	for name, s := range others() {
		m, i := some(9), received(9, 5)
		m.Stream, i.Stream = s, s
		takes(t, name, i, m, behind(i, 10, nil, m))
	}
}

func refuses(t *testing.T, name string, i api.In, m api.Msg, want api.Errno) {
	t.Helper()
	if got, why := stream.Take(i, m); why != want || !alike(got, i) {
		t.Errorf("%s: Take is %v, error %d; not error %d", name, got, why, want)
	}
}

func TestTakeErrType(t *testing.T) { // 13.2
	for name, i := range map[string]api.In{
		"nothing yet": received(0, 0), "some": received(9, 5, some(10)), "done": done(received(9, 5)), "the last one held": received(9, 5, lastOne(11)), "full": received(512, 0),
	} {
		for _, seq := range []uint64{0, 8, 9, 10, 12, 13, 512, math.MaxUint64} {
			for kind := range 256 {
				if m := some(seq); api.MsgKind(kind) != api.MsgBatch {
					m.Kind = api.MsgKind(kind)
					refuses(t, name+", another kind", i, m, api.ErrType)
				}
			}
			for other, s := range others() {
				m := lastOne(seq)
				m.Stream = s
				refuses(t, name+", "+other, i, m, api.ErrType)
			}
			refuses(t, name+", a row more", i, batch(seq, false, rows(0, 9)), api.ErrType)
			refuses(t, name+", far more rows", i, batch(seq, true, rows(0, 600)), api.ErrType)
			refuses(t, name+", no message", i, api.Msg{}, api.ErrType)
		}
	}
}

func TestTakeErrTwice(t *testing.T) { // 13.2
	for name, i := range map[string]api.In{"done": done(received(9, 5)), "done with the last": done(received(512, 4096)), "done with nothing": done(received(1, 0))} {
		for _, seq := range []uint64{0, 1, 8, 9, 10, 12, 13, 511, 512, math.MaxUint64} {
			refuses(t, name, i, some(seq), api.ErrTwice)
			refuses(t, name, i, lastOne(seq), api.ErrTwice)
		}
	}
	i := received(9, 5, some(10), some(12))
	for _, seq := range []uint64{0, 1, 7, 8, 10, 12} {
		refuses(t, "it came", i, some(seq), api.ErrTwice)
		refuses(t, "it came, and says that it was the last", i, lastOne(seq), api.ErrTwice)
		refuses(t, "other rows", i, batch(seq, false, rows(900, 908)), api.ErrTwice)
	}
	refuses(t, "the last one is held", received(9, 5, lastOne(11)), lastOne(11), api.ErrTwice)
	refuses(t, "the last one is held, and this is none", received(9, 5, lastOne(11)), some(11), api.ErrTwice)
	refuses(t, "as many as may be", received(512, 0), some(511), api.ErrTwice)
	refuses(t, "held where none may come", received(511, 0, some(512)), some(512), api.ErrTwice)
}

func TestTakeErrRange(t *testing.T) { // 13.2, 13.5
	for _, seq := range []uint64{13, 14, 512, 1 << 63, math.MaxUint64} {
		refuses(t, "beyond the credits", received(9, 5), some(seq), api.ErrRange)
		refuses(t, "beyond the credits, the last", received(9, 5), lastOne(seq), api.ErrRange)
		refuses(t, "beyond the credits, some held", received(9, 5, some(10), some(11), some(12)), some(seq), api.ErrRange)
		refuses(t, "beyond the credits, and the last one", received(9, 5, lastOne(10)), some(seq), api.ErrRange)
		refuses(t, "beyond the credits, a second last one", received(9, 5, lastOne(12)), lastOne(seq), api.ErrRange)
	}
	refuses(t, "beyond the first credits", received(0, 0), some(4), api.ErrRange)
	for _, seq := range []uint64{512, 513, 514} {
		refuses(t, "beyond all that may come", received(511, 5), some(seq), api.ErrRange)
		refuses(t, "beyond all, the last", received(511, 5), lastOne(seq), api.ErrRange)
	}
	refuses(t, "beyond all, and the last one", received(509, 5, lastOne(511)), some(512), api.ErrRange)
	refuses(t, "beyond all, as many came", received(512, 0), some(512), api.ErrRange)
	refuses(t, "beyond all, as many came, the last", received(512, 4096), lastOne(512), api.ErrRange)
	refuses(t, "beyond all, ahead of one held", received(511, 0, some(514)), lastOne(512), api.ErrRange)
}

func TestTakeErrStale(t *testing.T) { // 13.2
	refuses(t, "above the last one", received(9, 5, lastOne(10)), some(11), api.ErrStale)
	refuses(t, "far above the last one", received(9, 5, lastOne(10)), some(12), api.ErrStale)
	refuses(t, "above the last of some", received(9, 5, some(10), lastOne(11)), some(12), api.ErrStale)
	refuses(t, "a second last one, above", received(9, 5, lastOne(10)), lastOne(12), api.ErrStale)
	refuses(t, "a second last one, below", received(9, 5, lastOne(12)), lastOne(10), api.ErrStale)
	refuses(t, "the last one below another", received(9, 5, some(11)), lastOne(10), api.ErrStale)
	refuses(t, "the last one between", received(9, 5, some(10), some(12)), lastOne(11), api.ErrStale)
	refuses(t, "the next is the last one", received(9, 5, some(10)), lastOne(9), api.ErrStale)
	refuses(t, "the next is the last one, another is", received(9, 5, lastOne(10)), lastOne(9), api.ErrStale)
	refuses(t, "the first is the last one", received(0, 0, some(3)), lastOne(0), api.ErrStale)
	refuses(t, "near the end", received(508, 0, lastOne(510)), some(511), api.ErrStale)
}

func TestTakeOfWrongStreams(t *testing.T) { // 13.2, P2: whatever comes
	for name, i := range wrongIns() {
		for _, m := range []api.Msg{{}, some(0), some(9), some(10), lastOne(11), some(13), some(math.MaxUint64), batch(9, false, rows(0, 9)), {Kind: api.MsgBatch}, stream.Ack(i)} {
			if got, why := stream.Take(i, m); why != api.ErrState || !reflect.DeepEqual(got, api.In{}) {
				t.Errorf("%s: Take is %v, error %d", name, got, why)
			}
		}
	}
}

func TestAck(t *testing.T) { // 13.2
	for _, ins := range []map[string]api.In{rightIns(), wrongIns()} {
		for name, i := range ins {
			got, want := stream.Ack(i), api.Msg{Kind: api.MsgAck, Stream: i.Stream, Seq: i.Next}
			if !reflect.DeepEqual(got, want) || wire.Check(got) != api.OK {
				t.Errorf("%s: Ack is %v", name, got)
			}
		}
	}
	for name, s := range others() {
		if got := stream.Ack(api.In{Stream: s, Next: 7}); !reflect.DeepEqual(got, api.Msg{Kind: api.MsgAck, Stream: s, Seq: 7}) {
			t.Errorf("%s: Ack is %v", name, got)
		}
	}
}
