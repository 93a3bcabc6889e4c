package coord_test

import (
	"math"
	"slices"
	"testing"

	"potsherd/api"
	"potsherd/coord"
	"potsherd/stream"
)

func TestBeat(t *testing.T) { // 18.3
	for _, x := range []struct {
		name       string
		from       int
		boot       uint64
		isBelieved bool
	}{
		{"the same opening", 1, 5, true}, {"another opening", 2, 7, true}, {"the last opening", 3, most, true},
		{"an opening that is over", 2, 5, false}, {"no opening", 1, 0, false},
		{"the coordinator", 0, 9, false}, {"no node", 4, 9, false}, {"below", -1, 9, false}, {"far", math.MaxInt, 9, false},
	} {
		c := busy()
		c.Now = 23
		n := &node{t, c}
		n.receive(x.name, x.from, beat(x.boot)) // runs of another opening wait for the next tick
		if x.isBelieved {
			c.Leases.Boots[x.from], c.Leases.Seen[x.from] = x.boot, 23
		}
		n.is(x.name, c)
	}
	c := with(func(c *api.Coord) { c.Leases.Seen[1] = 21 })
	n := &node{t, c}
	n.ignores("seen later than now", 1, beat(5))
	n.receive("seen later than now, another opening", 1, beat(6))
	c.Leases.Boots[1], c.Leases.Seen[1] = 6, 20
	n.is("seen later than now, another opening", c)
	c = with(func(c *api.Coord) { c.Leases.Boots[1], c.Leases.Seen[1], c.Now = 0, 0, most })
	n = &node{t, c}
	n.receive("the first beat of all", 1, beat(1))
	c.Leases.Boots[1], c.Leases.Seen[1] = 1, most
	n.is("the first beat of all", c)
}

func TestBatch(t *testing.T) { // 18.3: stream by stream till all came
	c := asked(all)
	n, r := &node{t, c}, c.Runs[0]
	var all []api.Row
	for from, rows := range [][]api.Row{ts(30, 50), nil, ts(0, 8)} {
		s := link(c, r, from)
		for i, m := range batches(s, rows) {
			posts := post(r.Frags[from].Node, ack(s, uint64(i+1)))
			if from == 2 && m.Last {
				posts = append(posts, cleans(c, 31)...)
			}
			n.receive("a batch", r.Frags[from].Node, m, posts...)
			if len(n.Runs) > 0 {
				r.Ins[from] = in(s, batches(s, rows)[:i+1]...)
				c.Runs[0] = r
				n.is("a batch", c)
			}
		}
		all = append(all, rows...)
	}
	c.Runs = nil
	want := slices.Concat(ts(0, 8), ts(30, 50)) // in order
	c.Answers = []api.Answer{{N: 31, Names: []string{"k", "s"}, Rows: want}}
	n.is("the last", c)
	if len(all) != len(want) {
		t.Error("there were", len(all))
	}
	n.ignores("behind the answer", 1, batches(link(c, r, 2), ts(0, 8))[0])
}

func TestBatchAhead(t *testing.T) { // 18.3: what comes in another order, and twice
	c := asked(all)
	n, r := &node{t, c}, c.Runs[0]
	s := link(c, r, 1)
	l, to := batches(s, ts(0, 60)), r.Frags[1].Node
	hears := func(name string, m api.Msg, next uint64, came ...api.Msg) {
		t.Helper()
		n.receive(name, to, m, post(to, ack(s, next))...)
		c.Runs[0].Ins[1] = in(s, came...)
		n.is(name, c)
	}
	hears("the third", l[2], 0, l[2])
	hears("the third again", l[2], 0, l[2])
	hears("the fourth", l[3], 0, l[2], l[3])
	n.ignores("beyond what may come", to, l[4])
	hears("the first", l[0], 1, l[2], l[3], l[0])
	hears("the second", l[1], 4, l[:4]...)
	hears("the second again", l[1], 4, l[:4]...)
	hears("the first again", l[0], 4, l[:4]...)
	last := api.Msg{Kind: api.MsgBatch, Stream: s, Seq: 5, Last: true}
	hears("one that is told to be the last", last, 4, append(slices.Clone(l[:4]), last)...)
	n.ignores("one behind the last", to, l[6])
	n.ignores("a last one ahead of the last", to, api.Msg{Kind: api.MsgBatch, Stream: s, Seq: 4, Last: true})
	many := batches(s, ts(0, 60))[4]
	many.Rows = ts(0, 9)
	n.ignores("too many rows", to, many)
}

func TestBatchOfSomethingElse(t *testing.T) { // 18.3
	c := running(quiet(), all, shuffled)
	c.Runs[0].Attempt, c.Runs[0].Ins = 2, nil
	for i := range 3 {
		c.Runs[0].Ins = append(c.Runs[0].Ins, api.In{Stream: link(c, c.Runs[0], i)})
	}
	n := &node{t, c}
	s := link(c, c.Runs[0], 0)
	other := func(change func(s *api.Stream)) api.Stream {
		x := s
		change(&x)
		return x
	}
	for name, x := range map[string]api.Stream{
		"of the attempt before":     other(func(s *api.Stream) { s.Attempt = 1 }),
		"of an attempt to come":     other(func(s *api.Stream) { s.Attempt = 3 }),
		"of no attempt":             other(func(s *api.Stream) { s.Attempt = 0 }),
		"of no run":                 other(func(s *api.Stream) { s.Query.N = 30 }),
		"of another opening":        other(func(s *api.Stream) { s.Query.Boot = 2 }),
		"of another run's attempt":  other(func(s *api.Stream) { s.Query.N = 32 }),
		"to a fragment":             other(func(s *api.Stream) { s.To = 0 }),
		"to nowhere":                other(func(s *api.Stream) { s.To = -2 }),
		"from no fragment":          other(func(s *api.Stream) { s.From = 3 }),
		"from below":                other(func(s *api.Stream) { s.From = -1 }),
		"from a Frag that sends on": {Query: qid(c, 32), Attempt: 1, From: 0, To: -1},
		"between fragments":         {Query: qid(c, 32), Attempt: 1, From: 0, To: 6},
		"of nothing":                {},
	} {
		for from := range 5 {
			n.ignores(name, from, batches(x, ts(0, 3))[0])
		}
	}
	for from := -1; from < 9; from++ { // whoever sends it: it goes by its stream
		n := &node{t, c}
		n.receive("from any node", from, batches(s, ts(0, 20))[0], post(c.Runs[0].Frags[0].Node, ack(s, 1))...)
	}
}

func TestBatchOfOneOfSeveral(t *testing.T) { // 18.3: the others stay as they are
	c := running(quiet(), all, counted, elsewhere, shuffled)
	n := &node{t, c}
	r := c.Runs[1]
	for from := range 3 {
		row := api.Row{whole(2), whole(0), whole(0), {}, whole(2), whole(0), whole(from), {}} // two rows, whose sum is from
		posts := post(r.Frags[from].Node, ack(link(c, r, from), 1))
		if from == 2 {
			posts = append(posts, cleans(c, 32)...)
		}
		n.receive("a group", 1, batches(link(c, r, from), []api.Row{row})[0], posts...)
	}
	c.Runs = slices.Delete(slices.Clone(c.Runs), 1, 2)
	c.Answers = []api.Answer{{N: 32, Names: []string{"c1", "c2"}, Rows: []api.Row{{whole(6), whole(3)}}}}
	n.is("a group", c)
}

func TestBatchOfAShuffledJoin(t *testing.T) { // 18.3: only those that send to the coordinator are waited for
	c := asked(shuffled)
	n, r := &node{t, c}, c.Runs[0]
	for i, from := range []int{7, 8, 6} {
		posts := post(r.Frags[from].Node, ack(link(c, r, from), 1))
		if i == 2 {
			posts = append(posts, cleans(c, 31)...)
		}
		n.receive("a join", 1, batches(link(c, r, from), []api.Row{{text("x"), whole(from)}})[0], posts...)
	}
	if want := []api.Answer{{N: 31, Names: []string{"s", "n"}, Rows: []api.Row{{text("x"), whole(6)}, {text("x"), whole(7)}, {text("x"), whole(8)}}}}; !alike(n.Answers, want) || len(n.Runs) > 0 {
		t.Error("the answers are", n.Answers)
	}
}

// finished hands all rows of a run's streams on, and tells the answer.
func finished(t *testing.T, query string, rows ...[]api.Row) api.Answer {
	t.Helper()
	c := asked(query)
	r := c.Runs[0]
	for i, s := range r.Ins {
		for _, m := range batches(s.Stream, rows[i]) {
			if len(c.Runs) == 0 {
				t.Fatalf("%s is answered too soon: %v", query, c.Answers)
			}
			c, _ = coord.Receive(c, 1, m)
		}
	}
	if len(c.Runs) > 0 || len(c.Answers) != 1 || c.Answers[0].N != 31 || coord.Check(c) != api.OK {
		t.Fatalf("%s is answered %v", query, c.Answers)
	}
	return c.Answers[0]
}

func TestFinish(t *testing.T) { // 18.3: exec.Finish's error, or the rows
	for name, x := range map[string]struct {
		query string
		rows  [][]api.Row
		want  api.Answer
	}{
		"as many rows as may be": {all, [][]api.Row{slices.Repeat(ts(1, 2), 2048), nil, slices.Repeat(ts(1, 2), 2048)}, api.Answer{N: 31, Names: []string{"k", "s"}, Rows: slices.Repeat(ts(1, 2), 4096)}},
		"one more":               {all, [][]api.Row{slices.Repeat(ts(1, 2), 2048), ts(1, 2), slices.Repeat(ts(1, 2), 2048)}, failed(31, api.ErrMany)},
		"far more":               {all, slices.Repeat([][]api.Row{slices.Repeat(ts(1, 2), 4096)}, 3), failed(31, api.ErrMany)},
		"a short row":            {all, [][]api.Row{ts(0, 3), {{whole(1)}}, nil}, failed(31, api.ErrType)},
		"another kind":           {all, [][]api.Row{ts(0, 3), {{text("x"), text("x")}}, nil}, failed(31, api.ErrType)},
		"no group's row":         {counted, [][]api.Row{nil, nil, ts(0, 1)}, failed(31, api.ErrType)},
		"nothing at all":         {all, make([][]api.Row, 3), api.Answer{N: 31, Names: []string{"k", "s"}}},
		"no groups":              {counted, make([][]api.Row, 3), api.Answer{N: 31, Names: []string{"c1", "c2"}, Rows: []api.Row{{whole(0), {}}}}},
		"nulls":                  {all, [][]api.Row{{{{}, {}}}, ts(3, 4), {{whole(1), {}}}}, api.Answer{N: 31, Names: []string{"k", "s"}, Rows: []api.Row{{{}, {}}, {whole(1), {}}, ts(3, 4)[0]}}},
	} {
		if got := finished(t, x.query, x.rows...); !alike(got, x.want) {
			t.Errorf("%s: error %d, %s", name, got.Why, differ(got, x.want))
		}
	}
}

func TestFinishOfWhatWasPublished(t *testing.T) { // 18.3, 18.8: by the claims of the run, whatever they are now
	c := asked(all)
	for name, l := range map[string][]api.Claim{"nothing": nil, "other tables": many(8)[1:], "other columns": {claim("t", api.Version{}, []int{1}, []int{1}, []int{1})}} {
		c.Claims = l
		if len(l) == 1 {
			c.Claims[0].Cols = colsOf("u")
		}
		n := &node{t, c}
		for from := range 3 {
			n.Coord, _ = coord.Receive(n.Coord, 1, batches(link(c, c.Runs[0], from), ts(from, from+1))[0])
		}
		if want := []api.Answer{{N: 31, Names: []string{"k", "s"}, Rows: ts(0, 3)}}; !alike(n.Answers, want) {
			t.Errorf("%s: the answers are %v", name, n.Answers)
		}
	}
}

func TestStreamsMadeByHand(t *testing.T) { // 18.3, 18.6: where no Frag is, or too many batches are held
	c := asked(all)
	c.Runs[0].Ins = c.Runs[0].Ins[:1]
	for _, from := range []int{3, -1, math.MaxInt, math.MinInt} { // nobody is told, as no Frag is there
		s := link(c, c.Runs[0], from)
		c.Runs[0].Ins[0].Stream = s
		n := &node{t, c}
		n.receive("from no Frag", 1, batches(s, ts(0, 20))[0])
		if n.Runs[0].Ins[0].Next != 1 {
			t.Error("the stream is", n.Runs[0].Ins[0])
		}
		n.receive("from no Frag", 1, batches(s, ts(0, 20))[2])
		n.receive("from no Frag, the last", 1, batches(s, ts(0, 20))[1], cleans(c, 31)...)
		if len(n.Answers) != 1 || !alike(n.Answers[0].Rows, ts(0, 20)) {
			t.Error("the answers are", n.Answers)
		}
	}
	for name, change := range map[string]func(s *api.Stream){ // a stream that is not of its run is of none
		"of another attempt": func(s *api.Stream) { s.Attempt = 2 },
		"of another query":   func(s *api.Stream) { s.Query.N = 30 },
		"of another opening": func(s *api.Stream) { s.Query.Boot = 2 },
	} {
		s := link(c, c.Runs[0], 0)
		change(&s)
		c.Runs[0].Ins[0].Stream = s
		n := &node{t, c}
		n.ignores(name, 1, batches(s, ts(0, 20))[0])
	}
	s := link(c, c.Runs[0], 0)
	full := api.In{Stream: s, Next: 511, Held: []api.Batch{{Seq: 512}}}
	c.Runs[0].Ins[0] = full
	if why := stream.CheckIn(full); why != api.OK {
		t.Fatal("CheckIn: error", why)
	}
	n := &node{t, c}
	n.ignores("beyond the greatest number", 1, api.Msg{Kind: api.MsgBatch, Stream: s, Seq: 511})
	c.Runs[0].Ins[0].Held = nil
	n = &node{t, c}
	n.receive("the greatest number", 1, api.Msg{Kind: api.MsgBatch, Stream: s, Seq: 511}, post(1, ack(s, 512))...)
	n.ignores("no room for the last", 1, api.Msg{Kind: api.MsgBatch, Stream: s, Seq: 512, Last: true})
}

func TestRunsMadeByHand(t *testing.T) { // 18.3: whose streams are all there, without Frags
	c := asked(all)
	s := link(c, c.Runs[0], 0)
	c.Runs[0].Ins = []api.In{in(s, batches(s, ts(0, 3))...)}
	n := &node{t, c}
	n.receive("again what came", 1, batches(s, ts(0, 3))[0], append(post(c.Runs[0].Frags[0].Node, ack(s, 1)), cleans(c, 31)...)...)
	want := []api.Answer{{N: 31, Names: []string{"k", "s"}, Rows: ts(0, 3)}}
	if !alike(n.Answers, want) || len(n.Runs) > 0 {
		t.Error("the answers are", n.Answers)
	}
	c.Runs[0].Frags, c.Runs[0].Boots = nil, nil
	n = &node{t, c}
	n.receive("a run without Frags", 1, batches(s, ts(0, 3))[0]) // no worker heard of it
	if !alike(n.Answers, want) || len(n.Runs) > 0 {
		t.Error("the answers are", n.Answers)
	}
	two := running(asked(all), elsewhere) // two runs of one number: the one that has such a stream is meant
	two.Runs[1].N, two.Runs[0].Ins = 31, nil
	n = &node{t, two}
	n.receive("of two runs the second", 1, batches(s, ts(0, 20))[0], post(two.Runs[1].Frags[0].Node, ack(s, 1))...)
	c = asked(all)
	c.Runs[0].Ins = []api.In{in(s, batches(s, ts(0, 3))...)}
	n = &node{t, c}
	long := batches(s, ts(0, 3))[0]
	long.Rows = ts(0, 9)
	n.ignores("a batch that is refused ends nothing", 1, long)
}
