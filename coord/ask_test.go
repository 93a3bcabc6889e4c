package coord_test

import (
	"slices"
	"strings"
	"testing"

	"potsherd/api"
	"potsherd/coord"
)

func TestAsk(t *testing.T) { // 18.2
	n := &node{t, quiet()}
	want := quiet()
	for i, q := range []string{all, shuffled, counted, joined} {
		want.Last++
		r := run(quiet(), uint64(41+i), q, 1)
		want.Runs = append(want.Runs, r)
		n.ask(q, q, uint64(41+i), starts(want, r)...)
		n.is(q, want)
	}
	if len(n.Runs[1].Frags) != 9 || len(n.Runs[1].Ins) != 3 || n.Runs[1].Ins[0].Stream.From != 6 {
		t.Error("shuffled:", n.Runs[1])
	}
}

func TestAskInFull(t *testing.T) { // 18.2: what is sent, word by word
	c, n, posts := coord.Ask(quiet(), elsewhere)
	b := api.Bound{Table: "u", Items: []api.Item{{Expr: []api.Step{{Kind: api.StepCol, N: 1}}}}, Names: []string{"n"}, Kinds: []api.Kind{api.KindInt}}
	var frags []api.Frag
	var ins []api.In
	var want []api.Post
	for s, node := range []int{1, 3, 3} { // of the second shard's owners the second one is asked
		frags = append(frags, api.Frag{Id: s, Node: node, Left: api.Src{Kind: api.SrcShard, Table: "u", Version: api.Version{Boot: 2, Load: 7}, Shard: s}})
		ins = append(ins, api.In{Stream: api.Stream{Query: api.Qid{Boot: 3, N: 41}, Attempt: 1, From: s, To: -1}})
		want = append(want, api.Post{To: node, Msg: api.Msg{Kind: api.MsgStart, Stream: api.Stream{Query: api.Qid{Boot: 3, N: 41}, Attempt: 1}, Bound: b, Catalog: []api.Table{{Name: "t", Cols: colsOf("t")}, {Name: "u", Cols: colsOf("u")}}, Frag: frags[s], Nodes: []int{1, 3, 3}}})
	}
	if n != 41 || !alike(posts, want) {
		t.Errorf("%d: %s", n, differ(posts, want))
	}
	if r := (api.Run{N: 41, Bound: b, Claims: claims(), Attempt: 1, Frags: frags, Boots: []uint64{5, 7, 7}, Ins: ins}); !alike(c.Runs, []api.Run{r}) {
		t.Error(differ(c.Runs, []api.Run{r}))
	}
}

func TestAskOfThoseAlive(t *testing.T) { // 18.2, 18.1: whoever is alive at Now
	c := with(func(c *api.Coord) { c.Leases.Seen = []uint64{0, 12, 13, 20} }) // the lease of 1 is just over
	n := &node{t, c}
	r := run(c, 41, all, 1)
	n.ask("one is dead", all, 41, starts(c, r)...)
	if nodes := []int{r.Frags[0].Node, r.Frags[1].Node, r.Frags[2].Node}; !slices.Equal(nodes, []int{2, 3, 3}) {
		t.Error("they run on", nodes)
	}
	n.ask("its table's", elsewhere, 42)
	if want := []api.Answer{failed(42, api.ErrUnavailable)}; !alike(n.Answers, want) || len(n.Runs) != 1 {
		t.Error("the answers are", n.Answers)
	}
}

// unread are queries that can't be read, or bound, and why.
func unread() map[string]api.Errno {
	return map[string]api.Errno{
		"":                                 api.ErrSyntax,
		"(from t":                          api.ErrSyntax,
		"(from t))":                        api.ErrSyntax,
		"(from t (where \"\xff\"))":        api.ErrUtf,
		"(from t (get (((((((((k)))))))))": api.ErrSyntax,
		"(from t (get " + strings.Repeat("(neg ", 7) + "k" + strings.Repeat(")", 7) + "))": api.ErrDepth,
		"(from t (get k k k k k k k k k))":                                                 api.ErrMany,
		"(from t (where (= s \"" + strings.Repeat("x", 257) + "\")))":                      api.ErrLong,
		"(from t)" + strings.Repeat(" ", 2041):                                             api.ErrLong,
		"(from z)":                                                                         api.ErrName,
		"(from t (join z t.k z.k))":                                                        api.ErrName,
		"(from t (get n))":                                                                 api.ErrName,
		"(from t (join u t.s u.k))":                                                        api.ErrType,
		"(from t (where k))":                                                               api.ErrType,
		"(from t (group k k) (get k))":                                                     api.ErrTwice,
	}
}

func TestAskOfNoQuery(t *testing.T) { // 18.2: parse.Parse's error, bind.Bind's
	n := &node{t, quiet()}
	want := quiet()
	for q, why := range unread() {
		want.Last++
		want.Answers = append(want.Answers, failed(want.Last, why))
		n.ask(q, q, want.Last)
		n.is(q, want)
	}
}

func TestAskOfTheLongest(t *testing.T) { // 18.2: as long as may be
	c := quiet()
	r := run(c, 41, all, 1)
	n := &node{t, c}
	n.ask("2048 bytes", all+strings.Repeat(" ", 2040), 41, starts(c, r)...)
}

func TestAskTooMany(t *testing.T) { // 18.2: MaxRuns Runs, and one more; P3: what is told first
	c := running(quiet(), all, shuffled, counted)
	n := &node{t, c}
	r := run(c, 41, joined, 1)
	n.ask("the fourth", joined, 41, starts(c, r)...)
	c.Runs, c.Last = append(c.Runs, r), 42
	n.ask("the fifth", all, 42)
	c.Answers = append(c.Answers, failed(42, api.ErrFull))
	n.is("the fifth", c)
	for q, why := range unread() {
		c.Last++
		c.Answers = append(c.Answers, failed(c.Last, why))
		n.ask(q, q, c.Last)
		n.is(q, c)
	}
	nobody := c
	nobody.Leases = api.Leases{Boots: make([]uint64, 4), Seen: make([]uint64, 4)}
	n = &node{t, nobody}
	nobody.Last++
	nobody.Answers = append(nobody.Answers, failed(nobody.Last, api.ErrFull))
	n.ask("nobody alive", all, nobody.Last)
	n.is("nobody alive", nobody)
}

func TestAskWhileLoading(t *testing.T) { // 18.2: Loads are no matter
	c := with(func(c *api.Coord) { c.Loads = loads(4) })
	n := &node{t, c}
	n.ask("as many Loads as may be", all, 41, starts(c, run(c, 41, all, 1))...)
}

func TestAskUnavailable(t *testing.T) { // 18.2: no owner that is alive; nothing was sent, so that nothing is to be cleaned
	nobody := api.Leases{Boots: make([]uint64, 4), Seen: make([]uint64, 4)}
	late := api.Leases{Boots: []uint64{0, 5, 6, 7}, Seen: []uint64{0, 12, 21, 0}}
	for _, l := range []api.Leases{nobody, late} {
		c := with(func(c *api.Coord) { c.Leases = l })
		n := &node{t, c}
		c.Last, c.Answers = 41, []api.Answer{failed(41, api.ErrUnavailable)}
		n.ask("nobody alive", all, 41)
		n.is("nobody alive", c)
	}
	c, _ := coord.Start(wide(), kept(claims())) // the chapter's example
	n := &node{t, c}
	n.ask("nobody has beaten", all, 1)
	if !alike(n.Answers, []api.Answer{failed(1, api.ErrUnavailable)}) || len(n.Runs) > 0 {
		t.Error("the answers are", n.Answers)
	}
	n.ask("of no table", "(from z)", 2)
	if !alike(n.Answers[1:], []api.Answer{failed(2, api.ErrName)}) {
		t.Error("the answers are", n.Answers)
	}
}

func TestTheLastNumber(t *testing.T) { // 18.2: Last being 2^64 - 1, and one less
	c := with(func(c *api.Coord) { c.Last = most - 1 })
	n := &node{t, c}
	r := run(c, most, all, 1)
	n.ask("the last number", all, most, starts(c, r)...)
	c.Last, c.Runs = most, []api.Run{r}
	n.is("the last number", c)
	for _, q := range []string{all, "(from z)", "?"} {
		n.ask("none left: "+q, q, 0)
		c.Answers = append(c.Answers, failed(0, api.ErrRange))
		n.is("none left: "+q, c)
	}
	for _, x := range []api.Table{table("t", nil), {}} {
		n.load("none left", x, 0)
		c.Answers = append(c.Answers, failed(0, api.ErrRange))
		n.is("none left", c)
	}
	c = with(func(c *api.Coord) { c.Last = most - 1 })
	n = &node{t, c}
	x := load(most, table("t", ts(0, 9)))
	n.load("the last number", x.Table, most, every(x)...)
	c.Last, c.Loads = most, []api.Load{x}
	n.is("the last number", c)
	c = with(func(c *api.Coord) { c.Last = most - 1 })
	n = &node{t, c}
	n.ask("the last number of no query", "?", most)
	c.Last, c.Answers = most, []api.Answer{failed(most, api.ErrSyntax)}
	n.is("the last number of no query", c)
}

func TestLoad(t *testing.T) { // 18.2
	n := &node{t, quiet()}
	want := quiet()
	for i, name := range []string{"t", "v", "v", "u"} {
		want.Last++
		x := load(uint64(41+i), table(name, nil))
		if name != "u" {
			x.Table.Rows = ts(i, 30)
		}
		want.Loads = append(want.Loads, x)
		n.load(name, x.Table, uint64(41+i), every(x)...)
		n.is(name, want)
	}
	n.load("one too many", table("v", nil), 45)
	want.Last, want.Answers = 45, []api.Answer{failed(45, api.ErrFull)}
	n.is("one too many", want)
	n.load("one too many, and none", api.Table{}, 46)
	want.Last, want.Answers = 46, append(want.Answers, failed(46, api.ErrFull))
	n.is("one too many, and none", want)
}

func TestLoadWithNobodyThere(t *testing.T) { // 18.2: who is alive is asked later
	c := with(func(c *api.Coord) { c.Leases = api.Leases{Boots: make([]uint64, 4), Seen: make([]uint64, 4)} })
	n := &node{t, c}
	x := load(41, table("t", ts(0, 9)))
	n.load("nobody there", x.Table, 41, every(x)...)
	c.Last, c.Loads = 41, []api.Load{x}
	n.is("nobody there", c)
}

func TestLoadWhileRunning(t *testing.T) { // 18.2: Runs are no matter
	c := running(quiet(), all, shuffled, counted, joined)
	n := &node{t, c}
	x := load(41, table("t", ts(0, 9)))
	n.load("as many Runs as may be", x.Table, 41, every(x)...)
}

func TestLoadOfATableTooMany(t *testing.T) { // 18.2: MaxTables Claims, with and without a table of that name; one less
	full := with(func(c *api.Coord) { c.Claims = many(8) })
	for name, mayBe := range map[string]bool{"t": true, "t7": true, "v": false, "T": false, "": false} {
		c := full
		n := &node{t, c}
		c.Last = 41
		if mayBe {
			x := load(41, table(name, ts(0, 9)))
			c.Loads = []api.Load{x}
			n.load(name, x.Table, 41, every(x)...)
		} else {
			c.Answers = []api.Answer{failed(41, api.ErrMany)}
			n.load(name, table(name, ts(0, 9)), 41)
		}
		n.is(name, c)
	}
	c := with(func(c *api.Coord) { c.Claims = many(7) })
	n := &node{t, c}
	x := load(41, table("v", ts(0, 9)))
	n.load("the eighth", x.Table, 41, every(x)...)
	c = full
	c.Loads = loads(4)
	n = &node{t, c}
	n.load("too many of both", table("v", nil), 41)
	if !alike(n.Answers, []api.Answer{failed(41, api.ErrFull)}) {
		t.Error("the answers are", n.Answers)
	}
}

func TestLoadOfNoTable(t *testing.T) { // 18.2: publish.Begin's error
	long := api.Table{Name: "t", Cols: []api.Col{{Name: "k", Kind: api.KindInt}}}
	for i := range 7 {
		long.Cols = append(long.Cols, api.Col{Name: strings.Repeat("c", i+1), Kind: api.KindText})
	}
	for range 64 {
		long.Rows = append(long.Rows, append(api.Row{whole(1)}, slices.Repeat(api.Row{text(strings.Repeat("x", 256))}, 7)...))
	}
	bad := table("t", ts(0, 9))
	bad.Rows[8][0] = text("no int")
	n := &node{t, quiet()}
	want := quiet()
	for _, x := range []struct {
		table api.Table
		why   api.Errno
	}{
		{api.Table{}, api.ErrLong}, {table(strings.Repeat("n", 65), nil), api.ErrLong}, {table("\xff", nil), api.ErrUtf}, {api.Table{Name: "t"}, api.ErrMany},
		{table("t", ts(0, 65)), api.ErrMany}, {bad, api.ErrType}, {long, api.ErrLong},
	} {
		want.Last++
		want.Answers = append(want.Answers, failed(want.Last, x.why))
		n.load("no table", x.table, want.Last)
		n.is("no table", want)
	}
}

func TestNumbersRise(t *testing.T) { // 18.2, 18.7: queries and loads share them
	n := &node{t, with(func(c *api.Coord) { c.Last = 0 })}
	n.ask("a query that is none", "?", 1)
	x := load(2, table("t", ts(0, 9)))
	n.load("a table", x.Table, 2, every(x)...)
	n.load("a table that is none", api.Table{}, 3)
	n.ask("a query", all, 4, starts(n.Coord, run(n.Coord, 4, all, 1))...)
	if want := []api.Answer{failed(1, api.ErrSyntax), failed(3, api.ErrLong)}; !alike(n.Answers, want) {
		t.Error("the answers are", n.Answers)
	}
}
