package front_test

import (
	"fmt"
	"math/rand/v2"
	"slices"
	"strings"
	"testing"

	"potsherd/api"
	"potsherd/front"
	"potsherd/world"
)

func small() api.Layout { return api.Layout{Nodes: 2, Shards: 1, Replicas: 1} }

func wide() api.Layout { return api.Layout{Nodes: 4, Shards: 3, Replicas: 2} }

// pair is an order's line, and what comes of it.
type pair struct{ line, comes string }

// holdRun says what comes of a script, order by order.
func holdRun(t *testing.T, l api.Layout, pairs ...pair) {
	t.Helper()
	var script, want strings.Builder
	for _, p := range pairs {
		script.WriteString(p.line + "\n")
		want.WriteString(p.comes + "\n")
	}
	got, why, at := front.Run(l, script.String())
	if why != api.OK || at != 0 {
		t.Errorf("error %d, line %d", why, at)
	}
	if got == want.String() {
		return
	}
	g, w := strings.Split(got, "\n"), strings.Split(want.String(), "\n")
	for i := range min(len(g), len(w)) {
		if g[i] != w[i] {
			t.Errorf("line %d: %q; not %q", i+1, g[i], w[i])
			return
		}
	}
	t.Errorf("%d lines; not %d", len(g), len(w))
}

// ready are orders behind which the workers are known.
func ready() []pair { return []pair{{"tick", "ok"}, {"round", "ok"}} }

func TestExample(t *testing.T) { // 20.3, P5
	got, why, at := front.Run(small(), "round\nload (table t ((k int)) (7))\nround\nround\n")
	if want := "ok\nok 1\nok\nok\nanswer 1 1 ok\n"; got != want || why != api.OK || at != 0 {
		t.Errorf("%q, error %d, line %d; not %q", got, why, at, want)
	}
}

func TestRun(t *testing.T) { // 20.3
	holdRun(t, small(), append(ready(),
		pair{`load (table t ((k int) (s text)) (7 "é") (null "a\u{a}") (8 null))`, "ok 1"},
		pair{"round", "ok"},
		pair{"round", "ok\nanswer 1 1 ok"},
		pair{"ask (from t (get s k))", "ok 2"},
		pair{"ask (from t (where (> k 8)) (get k))", "ok 3"},
		pair{"ask (from t (get (count) (= 1 2)))", "ok 4\nanswer 1 4 name"},
		pair{"ask (from t (get (count) (max s)))", "ok 5"},
		pair{"round", "ok"},
		pair{"round", "ok\nanswer 1 2 ok (\"s\" \"k\") (null 8) (\"a\\u{a}\" null) (\"é\" 7)\nanswer 1 3 ok (\"k\")\nanswer 1 5 ok (\"c1\" \"c2\") (3 \"é\")"},
		pair{"round", "ok"},
		pair{"crash 0 0", "ok"},
		pair{"ask (from t)", "down"},
		pair{"load (table t ((k int)))", "down"},
		pair{"load (table t", "syntax"},
		pair{"crash 0 0", "state"},
		pair{"restart 0", "ok"},
		pair{"restart 0", "state"},
		pair{"ask (from t)", "ok 1\nanswer 2 1 unavailable"},
		pair{"tick", "ok"},
		pair{"round", "ok"},
		pair{"ask (from t (get (= k 7)))", "ok 2"},
		pair{"round", "ok"},
		pair{"round", "ok\nanswer 2 2 ok (\"c1\") (null) (false) (true)"},
	)...)
}

func TestErrorsOfOrders(t *testing.T) { // 20: what comes of orders that are refused
	deep := strings.Repeat("(not ", 8) + "true" + strings.Repeat(")", 8)
	holdRun(t, small(),
		pair{"load x", "syntax"},
		pair{"load ", "syntax"},
		pair{"load (table t ())", "many"},
		pair{`load (table "" ((k int)))`, "long"},
		pair{"load (table t ((k int)) (true))", "type"},
		pair{"load (table t ((k int) (k int)))", "twice"},
		pair{"load (table t ((k int)) (\xff))", "utf"},
		pair{"ask ", "ok 1\nanswer 1 1 syntax"},
		pair{"ask (from z)", "ok 2\nanswer 1 2 name"},
		pair{"ask (from t (where " + deep + "))", "ok 3\nanswer 1 3 depth"},
		pair{"ask \xff", "ok 4\nanswer 1 4 utf"},
		pair{"ask (from t (where (= s \"" + strings.Repeat("x", 257) + "\")))", "ok 5\nanswer 1 5 long"},
		pair{"ask (from t (get 1 2 3 4 5 6 7 8 9))", "ok 6\nanswer 1 6 many"},
		pair{"deliver 0", "unknown"},
		pair{"drop 0", "unknown"},
		pair{"copy 2147483647", "unknown"},
		pair{"crash 2 0", "range"},
		pair{"restart 2", "range"},
		pair{"restart 1", "state"},
		pair{"fuse 2 0", "range"},
		pair{"fuse 2147483647 2147483647", "range"},
		pair{"fuse 1 0", "ok"},
		pair{"tick", "ok"},
		pair{"deliver 1", "unknown"},
		pair{"copy 0", "ok"},
		pair{"deliver 1", "ok"},
		pair{"drop 0", "ok"},
		pair{"drop 0", "unknown"},
		pair{"load (table t ((k int)) (1))", "ok 7"},
		pair{"deliver 0", "ok"}, // its power goes
		pair{"crash 1 2147483647", "ok"},
		pair{"crash 1 0", "state"},
		pair{"fuse 1 3", "ok"},
		pair{"restart 1", "ok"},
		pair{"round", "ok"},
		pair{"round", "ok"},
		pair{"round", "ok\nanswer 1 7 ok"},
	)
}

func TestManyAtOnce(t *testing.T) { // 20.3: full
	l := append(ready(), pair{"load (table t ((k int)) (1))", "ok 1"}, pair{"round", "ok"}, pair{"round", "ok\nanswer 1 1 ok"})
	for n := 2; n <= 5; n++ {
		l = append(l, pair{"ask (from t)", fmt.Sprint("ok ", n)})
	}
	l = append(l, pair{"ask (from t)", "ok 6\nanswer 1 6 full"})
	l = append(l, pair{"round", "ok"}, pair{"round", "ok\nanswer 1 2 ok (\"k\") (1)\nanswer 1 3 ok (\"k\") (1)\nanswer 1 4 ok (\"k\") (1)\nanswer 1 5 ok (\"k\") (1)"})
	holdRun(t, small(), l...)
}

func TestFullNet(t *testing.T) { // 20.3: a copy that finds no room; a round is as many deliveries as there are packets at its beginning
	l := slices.Repeat([]pair{{"tick", "ok"}}, 585) // seven workers beat
	l = append(l,
		pair{"deliver 4095", "unknown"},
		pair{"copy 0", "ok"},
		pair{"copy 0", "full"},
		pair{"tick", "ok"},
		pair{"deliver 4096", "unknown"},
		pair{"drop 4095", "ok"},
		pair{"copy 4094", "ok"},
		pair{"copy 4095", "full"},
		pair{"copy 4096", "unknown"},
		pair{"round", "ok"},
		pair{"deliver 7", "unknown"},
		pair{"deliver 6", "ok"},
		pair{"deliver 6", "unknown"},
	)
	holdRun(t, api.Layout{Nodes: 8, Shards: 7, Replicas: 2}, l...)
}

func TestRunThatIsRefused(t *testing.T) { // 20.3
	for _, x := range []struct {
		l   api.Layout
		s   string
		why api.Errno
		at  int
	}{
		{api.Layout{}, "tick\n", api.ErrRange, 0},
		{api.Layout{Nodes: 9, Shards: 1, Replicas: 1}, "x", api.ErrRange, 0},
		{api.Layout{Nodes: 2, Shards: 1, Replicas: 2}, strings.Repeat("x", 65537), api.ErrRange, 0},
		{small(), "tick\nx\n", api.ErrSyntax, 2},
		{small(), "tick", api.ErrSyntax, 1},
		{small(), strings.Repeat("x", 65537), api.ErrLong, 0},
		{small(), strings.Repeat("tick\n", 1025), api.ErrMany, 1025},
	} {
		if got, why, at := front.Run(x.l, x.s); got != "" || why != x.why || at != x.at {
			t.Errorf("Run(%v, %.20q): %q, error %d, line %d; not %d, %d", x.l, x.s, got, why, at, x.why, x.at)
		}
	}
	if got, why, at := front.Run(wide(), ""); got != "" || why != api.OK || at != 0 {
		t.Errorf("Run of nothing: %q, error %d, line %d", got, why, at)
	}
}

// secondRun does orders once more: the world keeps all its answers, and lines are made as they come.
func secondRun(t *testing.T, l api.Layout, orders []api.Order) (lines []string) {
	names := strings.Fields("ok nil range many long type state unknown full utf depth wire down syntax name twice over stale unavailable")
	w, _ := world.New(l)
	for _, o := range orders {
		told := len(w.Answers)
		var n uint64
		var why api.Errno
		switch o.Kind {
		case api.OrderLoad:
			var x api.Table
			if x, why, _ = front.ReadTable(o.Text); why == api.OK {
				w, n, why = world.Load(w, x)
			}
		case api.OrderAsk:
			w, n, why = world.Ask(w, o.Text)
		case api.OrderTick:
			w, why = world.Tick(w)
		case api.OrderRound:
			for k := len(w.Net.Packets); k > 0; k-- {
				w, _ = world.Deliver(w, 0)
			}
			w, why = world.Tick(w)
		case api.OrderDeliver:
			w, why = world.Deliver(w, o.N)
		case api.OrderDrop:
			w, why = world.Drop(w, o.N)
		case api.OrderCopy:
			w, why = world.Copy(w, o.N)
		case api.OrderCrash:
			w, why = world.Crash(w, o.N, o.Keep)
		case api.OrderRestart:
			w, why = world.Restart(w, o.N)
		case api.OrderFuse:
			w, why = world.Fuse(w, o.N, o.Keep)
		}
		line := names[why]
		if n > 0 {
			line += fmt.Sprint(" ", n)
		}
		lines = append(lines, line)
		for _, a := range w.Answers[told:] {
			line := fmt.Sprintf("answer %d %d %s", a.Boot, a.Answer.N, names[a.Answer.Why])
			if a.Answer.Why == api.OK && len(a.Answer.Names) > 0 {
				var row api.Row
				for _, name := range a.Answer.Names {
					row = append(row, text(name))
				}
				for _, r := range append([]api.Row{row}, a.Answer.Rows...) {
					line += " " + front.ShowRow(r)
				}
			}
			lines = append(lines, line)
		}
	}
	return lines
}

// someScript is orders that are likely to do something.
func someScript(r *rand.Rand, l api.Layout) (orders []api.Order) {
	tables := []string{`(table t ((k int) (s text)) (1 "a") (2 "é") (3 null) (null "d"))`, "(table t ((k int) (s text)))", "(table u ((k int) (n int)) (1 1) (2 1) (3 2))", "(table x", "(table u ((k int)))"}
	queries := []string{"(from t)", "(from t (get (count) (max s)))", "(from u (join t u.n t.k) (get s n))", "(from u)", "(from", "(from z)", "(from t (group s) (get s (count)))"}
	for range 100 {
		o := api.Order{Kind: pick(r, api.OrderTick, api.OrderTick, api.OrderRound, api.OrderRound, api.OrderRound, api.OrderLoad, api.OrderAsk, api.OrderAsk, api.OrderDeliver, api.OrderDeliver, api.OrderDrop, api.OrderCopy, api.OrderCrash, api.OrderRestart, api.OrderRestart, api.OrderFuse)}
		switch o.Kind {
		case api.OrderLoad:
			o.Text = pick(r, tables...)
		case api.OrderAsk:
			o.Text = pick(r, queries...)
		case api.OrderDeliver, api.OrderDrop, api.OrderCopy:
			o.N = r.IntN(10)
		case api.OrderCrash, api.OrderFuse:
			o.N, o.Keep = r.IntN(l.Nodes+1), r.IntN(20)
		case api.OrderRestart:
			o.N = r.IntN(l.Nodes + 1)
		}
		orders = append(orders, o)
	}
	return orders
}

func TestTwoRuns(t *testing.T) { // 20.3, 20.6
	r := rand.New(rand.NewPCG(20, 5))
	seen := make(map[string]int)
	for _, l := range []api.Layout{small(), wide(), {Nodes: 3, Shards: 2, Replicas: 2}, {Nodes: 8, Shards: 8, Replicas: 2}} {
		for range 8 {
			orders := someScript(r, l)
			script, why := front.Print(orders)
			if why != api.OK {
				t.Fatal("Print: error", why)
			}
			want := secondRun(t, l, orders)
			got, why, at := front.Run(l, script)
			if why != api.OK || at != 0 || got != strings.Join(want, "\n")+"\n" {
				t.Fatalf("%v: %q: %q, error %d, line %d; not %q", l, script, got, why, at, want)
			}
			for _, line := range want {
				words := strings.Fields(line)
				if seen[words[0]]++; words[0] == "answer" {
					seen["answer "+words[3]]++
				}
			}
			holdBeginnings(t, r, l, orders, got)
		}
	}
	for _, what := range []string{"ok", "answer ok", "answer name", "answer unavailable", "down", "state", "range", "unknown", "syntax"} {
		if seen[what] < 3 {
			t.Errorf("%s was seen %d times", what, seen[what])
		}
	}
}

// holdBeginnings says that of a script and more the first lines are the script's own, and that each order has a line at least.
func holdBeginnings(t *testing.T, r *rand.Rand, l api.Layout, orders []api.Order, comes string) {
	t.Helper()
	for range 3 {
		n := r.IntN(len(orders) + 1)
		script, _ := front.Print(orders[:n])
		got, why, _ := front.Run(l, script)
		if why != api.OK || !strings.HasPrefix(comes, got) || strings.Count(got, "\n")-strings.Count(got, "answer ") != n {
			t.Fatalf("of %d orders comes %q, error %d; of all %q", n, got, why, comes)
		}
	}
}
