package coord_test

import (
	"reflect"
	"runtime"
	"slices"
	"strings"
	"testing"

	"potsherd/api"
	"potsherd/coord"
)

func TestAsk(t *testing.T) { // 18.2
	n := &node{t, quiet()}
	want := quiet()
	for i, q := range []string{all, shuffled, counted, joined} {
		want.Last++
		r := run(quiet(), uint64(41+i), q, 1)
		want.Runs = append(want.Runs, r)
		n.ask(q, q, uint64(41+i), starts(want, r)...)
		n.is(q, want)
	}
	if len(n.Runs[1].Frags) != 9 || len(n.Runs[1].Ins) != 3 || n.Runs[1].Ins[0].Stream.From != 6 {
		t.Error("shuffled:", n.Runs[1])
	}
}

func TestAskInFull(t *testing.T) { // 18.2: what is sent, word by word
	c, n, posts := coord.Ask(quiet(), elsewhere)
	b := api.Bound{Table: "u", Items: []api.Item{{Expr: []api.Step{{Kind: api.StepCol, N: 1}}}}, Names: []string{"n"}, Kinds: []api.Kind{api.KindInt}}
	var frags []api.Frag
	var ins []api.In
	var want []api.Post
	for s, node := range []int{1, 3, 3} { // of the second shard's owners the second one is asked
		frags = append(frags, api.Frag{Id: s, Node: node, Left: api.Src{Kind: api.SrcShard, Table: "u", Version: api.Version{Boot: 2, Load: 7}, Shard: s}})
		ins = append(ins, api.In{Stream: api.Stream{Query: api.Qid{Boot: 3, N: 41}, Attempt: 1, From: s, To: -1}})
		want = append(want, api.Post{To: node, Msg: api.Msg{Kind: api.MsgStart, Stream: api.Stream{Query: api.Qid{Boot: 3, N: 41}, Attempt: 1}, Bound: b, Catalog: []api.Table{{Name: "t", Cols: colsOf("t")}, {Name: "u", Cols: colsOf("u")}}, Frag: frags[s], Nodes: []int{1, 3, 3}}})
	}
	if n != 41 || !alike(posts, want) {
		t.Errorf("%d: %s", n, differ(posts, want))
	}
	if r := (api.Run{N: 41, Bound: b, Claims: claims(), Attempt: 1, Frags: frags, Boots: []uint64{5, 7, 7}, Ins: ins}); !alike(c.Runs, []api.Run{r}) {
		t.Error(differ(c.Runs, []api.Run{r}))
	}
}

func TestAskOfThoseAlive(t *testing.T) { // 18.2, 18.1: whoever is alive at Now
	c := with(func(c *api.Coord) { c.Leases.Seen = []uint64{0, 12, 13, 20} }) // the lease of 1 is just over
	n := &node{t, c}
	r := run(c, 41, all, 1)
	n.ask("one is dead", all, 41, starts(c, r)...)
	if nodes := []int{r.Frags[0].Node, r.Frags[1].Node, r.Frags[2].Node}; !slices.Equal(nodes, []int{2, 3, 3}) {
		t.Error("they run on", nodes)
	}
	n.ask("its table's", elsewhere, 42)
	if want := []api.Answer{failed(42, api.ErrUnavailable)}; !alike(n.Answers, want) || len(n.Runs) != 1 {
		t.Error("the answers are", n.Answers)
	}
}

// unread are queries that can't be read, or bound, and why.
func unread() map[string]api.Errno {
	return map[string]api.Errno{
		"":                                 api.ErrSyntax,
		"(from t":                          api.ErrSyntax,
		"(from t))":                        api.ErrSyntax,
		"(from t (where \"\xff\"))":        api.ErrUtf,
		"(from t (get (((((((((k)))))))))": api.ErrSyntax,
		"(from t (get " + strings.Repeat("(neg ", 7) + "k" + strings.Repeat(")", 7) + "))": api.ErrDepth,
		"(from t (get k k k k k k k k k))":                                                 api.ErrMany,
		"(from t (where (= s \"" + strings.Repeat("x", 257) + "\")))":                      api.ErrLong,
		"(from t)" + strings.Repeat(" ", 2041):                                             api.ErrLong,
		"(from z)":                                                                         api.ErrName,
		"(from t (join z t.k z.k))":                                                        api.ErrName,
		"(from t (get n))":                                                                 api.ErrName,
		"(from t (join u t.s u.k))":                                                        api.ErrType,
		"(from t (where k))":                                                               api.ErrType,
		"(from t (group k k) (get k))":                                                     api.ErrTwice,
	}
}

func TestAskOfNoQuery(t *testing.T) { // 18.2: parse.Parse's error, bind.Bind's
	n := &node{t, quiet()}
	want := quiet()
	for q, why := range unread() {
		want.Last++
		want.Answers = append(want.Answers, failed(want.Last, why))
		n.ask(q, q, want.Last)
		n.is(q, want)
	}
}

func TestAskOfTheLongest(t *testing.T) { // 18.2: as long as may be
	c := quiet()
	r := run(c, 41, all, 1)
	n := &node{t, c}
	n.ask("2048 bytes", all+strings.Repeat(" ", 2040), 41, starts(c, r)...)
}

func TestAskTooMany(t *testing.T) { // 18.2: MaxRuns Runs, and one more; P3: what is told first
	c := running(quiet(), all, shuffled, counted)
	n := &node{t, c}
	r := run(c, 41, joined, 1)
	n.ask("the fourth", joined, 41, starts(c, r)...)
	c.Runs, c.Last = append(c.Runs, r), 42
	n.ask("the fifth", all, 42)
	c.Answers = append(c.Answers, failed(42, api.ErrFull))
	n.is("the fifth", c)
	for q, why := range unread() {
		c.Last++
		c.Answers = append(c.Answers, failed(c.Last, why))
		n.ask(q, q, c.Last)
		n.is(q, c)
	}
	nobody := c
	nobody.Leases = api.Leases{Boots: make([]uint64, 4), Seen: make([]uint64, 4)}
	n = &node{t, nobody}
	nobody.Last++
	nobody.Answers = append(nobody.Answers, failed(nobody.Last, api.ErrFull))
	n.ask("nobody alive", all, nobody.Last)
	n.is("nobody alive", nobody)
}

func TestAskWhileLoading(t *testing.T) { // 18.2: Loads are no matter
	c := with(func(c *api.Coord) { c.Loads = loads(4) })
	n := &node{t, c}
	n.ask("as many Loads as may be", all, 41, starts(c, run(c, 41, all, 1))...)
}

func TestAskUnavailable(t *testing.T) { // 18.2: no owner that is alive; nothing was sent, so that nothing is to be cleaned
	nobody := api.Leases{Boots: make([]uint64, 4), Seen: make([]uint64, 4)}
	late := api.Leases{Boots: []uint64{0, 5, 6, 7}, Seen: []uint64{0, 12, 21, 0}}
	for _, l := range []api.Leases{nobody, late} {
		c := with(func(c *api.Coord) { c.Leases = l })
		n := &node{t, c}
		c.Last, c.Answers = 41, []api.Answer{failed(41, api.ErrUnavailable)}
		n.ask("nobody alive", all, 41)
		n.is("nobody alive", c)
	}
	c, _ := coord.Start(wide(), kept(claims())) // the chapter's example
	n := &node{t, c}
	n.ask("nobody has beaten", all, 1)
	if !alike(n.Answers, []api.Answer{failed(1, api.ErrUnavailable)}) || len(n.Runs) > 0 {
		t.Error("the answers are", n.Answers)
	}
	n.ask("of no table", "(from z)", 2)
	if !alike(n.Answers[1:], []api.Answer{failed(2, api.ErrName)}) {
		t.Error("the answers are", n.Answers)
	}
}

func TestTheLastNumber(t *testing.T) { // 18.2: Last one below 2^64 - 1: the number is that, as ever
	nearlySpent := func() api.Coord {
		c := busy()
		c.Last = most - 1
		return c
	}
	c := nearlySpent()
	n := &node{t, c}
	r := run(c, most, joined, 1)
	n.ask("a query", joined, most, starts(c, r)...)
	c.Last, c.Runs = most, append(c.Runs, r)
	n.is("a query", c)
	n.ask("a query behind the last", joined, 0)
	n.is("a query behind the last", c)

	c = nearlySpent()
	n = &node{t, c}
	x := load(most, table("t", ts(0, 9)))
	n.load("a table", x.Table, most, every(x)...)
	c.Last, c.Loads = most, append(c.Loads, x)
	n.is("a table", c)
	n.load("a table behind the last", x.Table, 0)
	n.is("a table behind the last", c)

	for q, why := range unread() {
		c, n := nearlySpent(), &node{t, nearlySpent()}
		n.ask(q, q, most)
		c.Last, c.Answers = most, append(c.Answers, failed(most, why))
		n.is(q, c)
		n.ask(q+" behind the last", q, 0)
		n.is(q+" behind the last", c)
	}
	c, n = nearlySpent(), &node{t, nearlySpent()}
	n.load("no table", api.Table{}, most)
	c.Last, c.Answers = most, append(c.Answers, failed(most, api.ErrLong))
	n.is("no table", c)
	n.load("no table behind the last", api.Table{}, 0)
	n.is("no table behind the last", c)
}

// spent are coordinators that have no number left.
func spent() map[string]api.Coord {
	nobody := api.Leases{Boots: make([]uint64, 4), Seen: make([]uint64, 4)}
	l := map[string]api.Coord{
		"bare":                      {Layout: api.Layout{Nodes: 3, Shards: 1, Replicas: 1}, Leases: api.Leases{Boots: make([]uint64, 3), Seen: make([]uint64, 3)}},
		"quiet":                     quiet(),
		"busy":                      busy(),
		"nearly done":               nearly(),
		"as many Runs as may be":    running(quiet(), all, shuffled, counted, joined),
		"as many Loads as may be":   with(func(c *api.Coord) { c.Loads = loads(4) }),
		"as many tables as may be":  with(func(c *api.Coord) { c.Claims = many(8) }),
		"nobody alive":              with(func(c *api.Coord) { c.Leases = nobody }),
		"answers of the last":       with(func(c *api.Coord) { c.Answers = []api.Answer{failed(most, api.OK), failed(7, api.ErrFull)} }),
		"a run of the last number":  with(func(c *api.Coord) { c.Runs = []api.Run{run(*c, most, all, 1)} }),
		"a load of the last number": with(func(c *api.Coord) { c.Loads = []api.Load{load(most, table("t", ts(0, 9)))} }),
	}
	for name, c := range l {
		c.Last = most
		l[name] = c
	}
	return l
}

func TestNoNumberLeft(t *testing.T) { // 18.2, P2, 18.7: Last being 2^64 - 1: it is as it was, and nothing is answered
	asks := []string{all, counted, joined, shuffled, elsewhere}
	for q := range unread() {
		asks = append(asks, q)
	}
	tables := []api.Table{{}, {Name: "t"}, table("t", ts(0, 9)), table("v", ts(0, 30)), table("v", ts(0, 65)), table("\xff", nil)}
	for name, c := range spent() {
		n := &node{t, c}
		for range 2 {
			for _, q := range asks {
				n.ask(name+": "+q, q, 0)
				n.is(name+": "+q, c)
			}
			for _, x := range tables {
				n.load(name+": "+x.Name, x, 0)
				n.is(name+": "+x.Name, c)
			}
		}
	}
}

func TestNoNumberLeftInNewMemory(t *testing.T) { // 18.2, 18.5: what is as it was shares nothing with what was handed in
	for name, c := range spent() {
		x := roomy(given{Coord: c, Query: all, Table: table("t", ts(0, 9))})
		theirs, before := memory(reflect.ValueOf(x)), behind(x)
		asked, _, _ := coord.Ask(x.Coord, x.Query)
		loaded, _, _ := coord.Load(x.Coord, x.Table)
		if share(theirs, memory(reflect.ValueOf(asked)), memory(reflect.ValueOf(loaded))) {
			t.Errorf("%s: memory is shared", name)
		}
		if !alike(asked, c) || !alike(loaded, c) {
			t.Errorf("%s: asked: %s; loaded: %s", name, differ(asked, c), differ(loaded, c))
		}
		if after := behind(x); !reflect.DeepEqual(after, before) {
			t.Errorf("%s: what was handed in was changed: %s", name, differ(after, before))
		}
		runtime.KeepAlive(x)
		runtime.KeepAlive(asked)
		runtime.KeepAlive(loaded)
	}
}

func TestASpentCoordGoesOn(t *testing.T) { // 18.2, 18.3, 18.4: what is under way is answered still, and once
	c := quiet()
	c.Last = most - 1
	n := &node{t, c}
	r := run(c, most, all, 1)
	n.ask("the last query", all, most, starts(c, r)...)
	n.ask("one more", all, 0)
	n.load("a table", table("t", nil), 0)
	for i, in := range r.Ins {
		m := batches(in.Stream, ts(i, i+1))[0]
		want := post(r.Frags[i].Node, ack(in.Stream, 1))
		if i == len(r.Ins)-1 {
			want = append(want, cleans(c, most)...)
		}
		n.receive("a batch", r.Frags[i].Node, m, want...)
	}
	n.ask("one more behind the answer", all, 0)
	n.load("a table behind the answer", table("t", nil), 0)
	n.tick("a tick")
	if want := []api.Answer{{N: most, Names: []string{"k", "s"}, Rows: ts(0, 3)}}; !alike(n.Answers, want) || len(n.Runs) > 0 {
		t.Error("the answers:", differ(n.Answers, want))
	}
}

func TestLoad(t *testing.T) { // 18.2
	n := &node{t, quiet()}
	want := quiet()
	for i, name := range []string{"t", "v", "v", "u"} {
		want.Last++
		x := load(uint64(41+i), table(name, nil))
		if name != "u" {
			x.Table.Rows = ts(i, 30)
		}
		want.Loads = append(want.Loads, x)
		n.load(name, x.Table, uint64(41+i), every(x)...)
		n.is(name, want)
	}
	n.load("one too many", table("v", nil), 45)
	want.Last, want.Answers = 45, []api.Answer{failed(45, api.ErrFull)}
	n.is("one too many", want)
	n.load("one too many, and none", api.Table{}, 46)
	want.Last, want.Answers = 46, append(want.Answers, failed(46, api.ErrFull))
	n.is("one too many, and none", want)
}

func TestLoadWithNobodyThere(t *testing.T) { // 18.2: who is alive is asked later
	c := with(func(c *api.Coord) { c.Leases = api.Leases{Boots: make([]uint64, 4), Seen: make([]uint64, 4)} })
	n := &node{t, c}
	x := load(41, table("t", ts(0, 9)))
	n.load("nobody there", x.Table, 41, every(x)...)
	c.Last, c.Loads = 41, []api.Load{x}
	n.is("nobody there", c)
}

func TestLoadWhileRunning(t *testing.T) { // 18.2: Runs are no matter
	c := running(quiet(), all, shuffled, counted, joined)
	n := &node{t, c}
	x := load(41, table("t", ts(0, 9)))
	n.load("as many Runs as may be", x.Table, 41, every(x)...)
}

func TestLoadOfATableTooMany(t *testing.T) { // 18.2: MaxTables Claims, with and without a table of that name; one less
	full := with(func(c *api.Coord) { c.Claims = many(8) })
	for name, mayBe := range map[string]bool{"t": true, "t7": true, "v": false, "T": false, "": false} {
		c := full
		n := &node{t, c}
		c.Last = 41
		if mayBe {
			x := load(41, table(name, ts(0, 9)))
			c.Loads = []api.Load{x}
			n.load(name, x.Table, 41, every(x)...)
		} else {
			c.Answers = []api.Answer{failed(41, api.ErrMany)}
			n.load(name, table(name, ts(0, 9)), 41)
		}
		n.is(name, c)
	}
	c := with(func(c *api.Coord) { c.Claims = many(7) })
	n := &node{t, c}
	x := load(41, table("v", ts(0, 9)))
	n.load("the eighth", x.Table, 41, every(x)...)
	c = full
	c.Loads = loads(4)
	n = &node{t, c}
	n.load("too many of both", table("v", nil), 41)
	if !alike(n.Answers, []api.Answer{failed(41, api.ErrFull)}) {
		t.Error("the answers are", n.Answers)
	}
}

func TestLoadOfNoTable(t *testing.T) { // 18.2: publish.Begin's error
	long := api.Table{Name: "t", Cols: []api.Col{{Name: "k", Kind: api.KindInt}}}
	for i := range 7 {
		long.Cols = append(long.Cols, api.Col{Name: strings.Repeat("c", i+1), Kind: api.KindText})
	}
	for range 64 {
		long.Rows = append(long.Rows, append(api.Row{whole(1)}, slices.Repeat(api.Row{text(strings.Repeat("x", 256))}, 7)...))
	}
	bad := table("t", ts(0, 9))
	bad.Rows[8][0] = text("no int")
	n := &node{t, quiet()}
	want := quiet()
	for _, x := range []struct {
		table api.Table
		why   api.Errno
	}{
		{api.Table{}, api.ErrLong}, {table(strings.Repeat("n", 65), nil), api.ErrLong}, {table("\xff", nil), api.ErrUtf}, {api.Table{Name: "t"}, api.ErrMany},
		{table("t", ts(0, 65)), api.ErrMany}, {bad, api.ErrType}, {long, api.ErrLong},
	} {
		want.Last++
		want.Answers = append(want.Answers, failed(want.Last, x.why))
		n.load("no table", x.table, want.Last)
		n.is("no table", want)
	}
}

func TestNumbersRise(t *testing.T) { // 18.2, 18.7: queries and loads share them
	n := &node{t, with(func(c *api.Coord) { c.Last = 0 })}
	n.ask("a query that is none", "?", 1)
	x := load(2, table("t", ts(0, 9)))
	n.load("a table", x.Table, 2, every(x)...)
	n.load("a table that is none", api.Table{}, 3)
	n.ask("a query", all, 4, starts(n.Coord, run(n.Coord, 4, all, 1))...)
	if want := []api.Answer{failed(1, api.ErrSyntax), failed(3, api.ErrLong)}; !alike(n.Answers, want) {
		t.Error("the answers are", n.Answers)
	}
}
