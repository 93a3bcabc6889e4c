package rpc_test

import (
	"math"
	"reflect"
	"slices"
	"strconv"
	"strings"
	"testing"

	"potsherd/api"
	"potsherd/rpc"
	"potsherd/wire"
)

func qid(boot, n uint64) api.Qid { return api.Qid{Boot: boot, N: n} }

func start(q api.Qid, attempt, id int) api.Msg {
	return api.Msg{Kind: api.MsgStart, Stream: api.Stream{Query: q, Attempt: attempt}, Frag: api.Frag{Id: id}}
}

func started(q api.Qid, attempt, id int) api.Msg {
	return api.Msg{Kind: api.MsgStarted, Stream: api.Stream{Query: q, Attempt: attempt, From: id}}
}

func shard(table string, v api.Version, n int) api.File {
	return api.File{Table: table, Version: v, Shard: n, Cols: []api.Col{{Name: "k", Kind: api.KindInt}}}
}

func install(f api.File, rows ...api.Row) api.Msg {
	f.Rows = rows
	return api.Msg{Kind: api.MsgInstall, File: f}
}

func installed(f api.File) api.Msg { return api.Msg{Kind: api.MsgInstalled, File: f} }

func row(n int64) api.Row { return api.Row{{Kind: api.KindInt, N: n}} }

func ask(to int, m api.Msg) api.Asked { return api.Asked{To: to, Msg: m} }

func of(l ...api.Asked) api.Outbox { return api.Outbox{Open: l} }

// many are n Starts, each of its own number, asked of the nodes in turn.
func many(n int) api.Outbox {
	var b api.Outbox
	for i := range n {
		b.Open = append(b.Open, ask(i%api.MaxNodes, start(qid(1, uint64(i)), 1, 0)))
	}
	return b
}

// alike tells whether two outboxes are, nil and empty lists being so.
func alike(a, b api.Outbox) bool { return reflect.DeepEqual(tidy(a), tidy(b)) }

// rich is a Start with all that one may have.
func rich() api.Msg {
	src := api.Src{Kind: api.SrcShard, Table: "t", Version: api.Version{Boot: 1, Load: 2}, Shard: 3, Frags: []int{4, 5}}
	steps := []api.Step{{Kind: api.StepCol, N: 1}, {Kind: api.StepText, Text: "some"}, {Kind: api.StepEqual}}
	return api.Msg{
		Kind:    api.MsgStart,
		Stream:  api.Stream{Query: qid(1, 2), Attempt: 3},
		Bound:   api.Bound{Table: "t", Join: "u", Width: 2, Left: 1, Where: steps, Group: []int{0, 1}, Items: []api.Item{{Agg: api.AggSum, Expr: steps}}, Grouped: true, Names: []string{"a", "b"}, Kinds: []api.Kind{api.KindInt, api.KindText}},
		Catalog: []api.Table{{Name: "t", Cols: []api.Col{{Name: "k", Kind: api.KindInt}}}, {Name: "u"}},
		Frag:    api.Frag{Id: 4, Node: 2, Left: src, Right: src, Raw: true, By: -1, To: []int{6, 7}},
		Nodes:   []int{1, 2, 3},
	}
}

func richInstall() api.Msg {
	return install(shard("t", api.Version{Boot: 1, Load: 2}, 3), row(7), api.Row{{Kind: api.KindText, S: "some"}, {}, {Kind: api.KindBool, B: true}})
}

// notAsked are right messages of all kinds that have no answer.
func notAsked() []api.Msg {
	return []api.Msg{
		{Kind: api.MsgBeat}, {Kind: api.MsgBeat, Boot: 7}, started(qid(1, 2), 3, 4), {Kind: api.MsgBatch}, {Kind: api.MsgBatch, Rows: []api.Row{row(1)}}, {Kind: api.MsgAck, Seq: 1},
		{Kind: api.MsgClean}, installed(shard("t", api.Version{}, 1)), {Kind: api.MsgClaims}, {Kind: api.MsgClaims, Claims: []api.Claim{{Table: "t"}}},
	}
}

// notRight are messages that are not.
func notRight() []api.Msg {
	long := strings.Repeat("x", 2049)
	return []api.Msg{
		{}, {Kind: api.MsgCount}, {Kind: 255}, {Kind: api.MsgStart, Seq: 1}, {Kind: api.MsgStart, Stream: api.Stream{From: 1}}, {Kind: api.MsgStart, Stream: api.Stream{To: -1}}, {Kind: api.MsgStart, Rows: []api.Row{{}}},
		{Kind: api.MsgStart, Catalog: []api.Table{{Rows: []api.Row{{}}}}}, {Kind: api.MsgStart, Nodes: make([]int, 65)}, {Kind: api.MsgStart, Bound: api.Bound{Table: long}}, {Kind: api.MsgStart, Boot: 1},
		{Kind: api.MsgInstall, Seq: 1}, {Kind: api.MsgInstall, File: api.File{Rows: make([]api.Row, 513)}}, {Kind: api.MsgInstall, File: api.File{Rows: []api.Row{{{N: 1}}}}}, {Kind: api.MsgInstall, File: api.File{Table: long}},
		{Kind: api.MsgInstall, Stream: api.Stream{Query: qid(1, 1)}}, {Kind: api.MsgBeat, Seq: 1}, {Kind: api.MsgInstalled, File: api.File{Rows: []api.Row{{}}}},
		{Kind: api.MsgInstall, File: api.File{Rows: slices.Repeat([]api.Row{{{Kind: api.KindText, S: long[:256]}}}, 512)}},
	}
}

// wrong are outboxes that are not right.
func wrong() map[string]api.Outbox {
	ok := ask(1, start(qid(1, 1), 1, 1))
	l := map[string]api.Outbox{
		"one more":            many(rpc.MaxOpen + 1),
		"far more":            many(3 * rpc.MaxOpen),
		"below node 0":        of(ask(-1, ok.Msg)),
		"beyond the nodes":    of(ask(8, ok.Msg)),
		"far beyond":          of(ok, ask(math.MaxInt, ok.Msg), ok),
		"far below":           of(ok, ok, ask(math.MinInt, ok.Msg)),
		"nothing is asked":    of(api.Asked{}),
		"the last of many":    of(append(many(rpc.MaxOpen-1).Open, ask(1, api.Msg{}))...),
		"the first of many":   of(append([]api.Asked{ask(9, ok.Msg)}, many(3).Open...)...),
		"many, nothing right": {Open: make([]api.Asked, 600)},
	}
	for i, m := range slices.Concat(notAsked(), notRight()) {
		l["message "+strconv.Itoa(i)] = of(ok, ask(1, m))
	}
	return l
}

// right are outboxes that are.
func right() map[string]api.Outbox {
	return map[string]api.Outbox{
		"empty":          {},
		"a Start":        of(ask(0, start(qid(0, 0), 0, 0))),
		"an Install":     of(ask(7, api.Msg{Kind: api.MsgInstall})),
		"rich ones":      of(ask(1, rich()), ask(2, richInstall()), ask(3, rich())),
		"odd numbers":    of(ask(7, start(qid(math.MaxUint64, math.MaxUint64), math.MinInt, math.MaxInt)), ask(0, install(shard("\xff", api.Version{Boot: math.MaxUint64}, -1)))),
		"the same twice": of(ask(1, rich()), ask(1, rich()), ask(1, richInstall()), ask(1, richInstall())),
		"of all nodes":   many(8),
		"nearly full":    many(rpc.MaxOpen - 1),
		"full":           many(rpc.MaxOpen),
	}
}

func TestCheck(t *testing.T) { // 12.1
	if rpc.MaxOpen != 512 {
		t.Error("MaxOpen is", rpc.MaxOpen)
	}
	for name, b := range right() {
		if why := rpc.Check(b); why != api.OK {
			t.Errorf("%s: error %d", name, why)
		}
	}
	if n := len(wrong()); n != 10+len(notAsked())+len(notRight()) {
		t.Errorf("%d outboxes are not right", n)
	}
	for name, b := range wrong() {
		if why := rpc.Check(b); why != api.ErrState {
			t.Errorf("%s: error %d", name, why)
		}
	}
	for _, m := range notAsked() {
		if why := wire.Check(m); why != api.OK {
			t.Errorf("%v is not right", m)
		}
	}
	for _, m := range notRight() {
		if why := wire.Check(m); why != api.ErrWire {
			t.Errorf("%v is right", m)
		}
	}
}

// asks says what Ask makes of an outbox: with an error it is what it was.
func asks(t *testing.T, name string, b api.Outbox, to int, m api.Msg, error api.Errno) {
	t.Helper()
	want := b
	if error == api.OK {
		want.Open = append(slices.Clone(b.Open), ask(to, m))
	}
	if got, why := rpc.Ask(b, to, m); why != error || !alike(got, want) {
		t.Errorf("%s: Ask is %.200v, error %d; not %.200v, error %d", name, got, why, want, error)
	}
}

func TestAsk(t *testing.T) { // 12.1
	for name, b := range right() {
		for _, m := range []api.Msg{start(qid(9, 9), 1, 1), install(shard("new", api.Version{}, 0)), {Kind: api.MsgStart, Bound: api.Bound{Table: "new"}}} {
			for to := range api.MaxNodes {
				why := api.OK
				if name == "full" {
					why = api.ErrFull
				}
				asks(t, name, b, to, m, why)
			}
		}
	}
	// One behind the other.
	b := api.Outbox{}
	var want []api.Asked
	for i := range rpc.MaxOpen {
		a := many(rpc.MaxOpen).Open[i]
		next, why := rpc.Ask(b, a.To, a.Msg)
		if want = append(want, a); why != api.OK || len(next.Open) != i+1 || !reflect.DeepEqual(next.Open[i], a) {
			t.Fatalf("%d: %v, error %d", i, next.Open[len(next.Open)-1], why)
		}
		b = next
	}
	if !alike(b, of(want...)) {
		t.Error("all that was asked:", b)
	}
	asks(t, "one more", b, 1, rich(), api.ErrFull)
}

func TestAskErrors(t *testing.T) { // 12.1, P2
	for name, b := range right() {
		for _, to := range []int{-1, 8, 9, math.MaxInt, math.MinInt} {
			asks(t, name+", no node", b, to, rich(), api.ErrRange)
		}
		for _, m := range notRight() {
			asks(t, name+", no message", b, 1, m, api.ErrWire)
		}
		for _, m := range notAsked() {
			asks(t, name+", no question", b, 1, m, api.ErrType)
		}
	}
	for name, b := range wrong() {
		asks(t, name, b, 1, rich(), api.ErrState)
	}
}

func TestAskedAlready(t *testing.T) { // 12.1
	for name, b := range right() {
		for _, a := range b.Open[:min(len(b.Open), 20)] {
			asks(t, name, b, a.To, a.Msg, api.ErrTwice)
		}
		if len(b.Open) > 0 {
			last := b.Open[len(b.Open)-1]
			asks(t, name+", the last", b, last.To, last.Msg, api.ErrTwice)
		}
	}
	// Nil and empty lists are the same message.
	m := rich()
	m.Rows, m.Claims, m.File.Cols, m.Catalog[1].Cols, m.Catalog[1].Rows = []api.Row{}, []api.Claim{}, []api.Col{}, []api.Col{}, []api.Row{}
	asks(t, "empty lists", of(ask(1, rich())), 1, m, api.ErrTwice)
	asks(t, "empty lists, the other way", of(ask(1, m)), 1, rich(), api.ErrTwice)
}

// others are messages that part from rich or richInstall in one thing.
func others() map[string]api.Msg {
	l := make(map[string]api.Msg)
	for name, change := range map[string]func(m *api.Msg){
		"opening": func(m *api.Msg) { m.Stream.Query.Boot++ },
		"number":  func(m *api.Msg) { m.Stream.Query.N++ },
		"attempt": func(m *api.Msg) { m.Stream.Attempt++ },
		"table":   func(m *api.Msg) { m.Bound.Table = "T" },
		"where":   func(m *api.Msg) { m.Bound.Where[1].Text = "others" },
		"item":    func(m *api.Msg) { m.Bound.Items[0].Agg = api.AggMin },
		"grouped": func(m *api.Msg) { m.Bound.Grouped = false },
		"catalog": func(m *api.Msg) { m.Catalog = m.Catalog[:1] },
		"id":      func(m *api.Msg) { m.Frag.Id++ },
		"node":    func(m *api.Msg) { m.Frag.Node++ },
		"by":      func(m *api.Msg) { m.Frag.By = 0 },
		"left":    func(m *api.Msg) { m.Frag.Left.Frags = nil },
		"right":   func(m *api.Msg) { m.Frag.Right.Shard++ },
		"to":      func(m *api.Msg) { m.Frag.To[1]++ },
		"nodes":   func(m *api.Msg) { m.Nodes = append(m.Nodes, 0) },
	} {
		m := rich()
		change(&m)
		l["Start's "+name] = m
	}
	for name, change := range map[string]func(f *api.File){
		"table":   func(f *api.File) { f.Table = "" },
		"opening": func(f *api.File) { f.Version.Boot++ },
		"load":    func(f *api.File) { f.Version.Load++ },
		"shard":   func(f *api.File) { f.Shard = -f.Shard },
		"cols":    func(f *api.File) { f.Cols = nil },
		"col":     func(f *api.File) { f.Cols[0].Kind = api.KindText },
		"rows":    func(f *api.File) { f.Rows = f.Rows[1:] },
		"value":   func(f *api.File) { f.Rows[0][0].N++ },
		"order":   func(f *api.File) { slices.Reverse(f.Rows) },
	} {
		m := richInstall()
		change(&m.File)
		l["Install's "+name] = m
	}
	return l
}

func TestJustThat(t *testing.T) { // 12.1: what parts in anything, or is asked of another node, is not asked already
	b := of(ask(1, rich()), ask(1, richInstall()))
	for name, m := range others() {
		asks(t, name, b, 1, m, api.OK)
	}
	for to := range api.MaxNodes {
		why := api.OK
		if to == 1 {
			why = api.ErrTwice
		}
		asks(t, "a Start of another node", b, to, rich(), why)
		asks(t, "an Install of another node", b, to, richInstall(), why)
	}
}

func TestErrorsInOrder(t *testing.T) { // 12.1, P3
	full := right()["full"]
	there, beat, junk := full.Open[5], api.Msg{Kind: api.MsgBeat}, api.Msg{Kind: api.MsgBeat, Seq: 1}
	for name, b := range wrong() {
		for _, to := range []int{1, -1, 8} {
			for _, m := range []api.Msg{rich(), junk, beat, start(qid(1, 1), 1, 1)} {
				asks(t, name, b, to, m, api.ErrState)
			}
		}
	}
	asks(t, "no node, no message", full, 8, junk, api.ErrRange)
	asks(t, "no node, no question", full, -1, beat, api.ErrRange)
	asks(t, "no node, full", full, -1, there.Msg, api.ErrRange)
	asks(t, "no message", full, there.To, junk, api.ErrWire)
	asks(t, "no question", full, there.To, beat, api.ErrType)
	asks(t, "asked already", full, there.To, there.Msg, api.ErrTwice)
	asks(t, "full", full, there.To+1, there.Msg, api.ErrFull)
}

// answer says what is left of an outbox: those at the places that are named.
func answer(t *testing.T, name string, b api.Outbox, from int, m api.Msg, left ...int) {
	t.Helper()
	var want api.Outbox
	for _, i := range left {
		want.Open = append(want.Open, b.Open[i])
	}
	if got, was := rpc.Answer(b, from, m); !alike(got, want) || was != (len(left) < len(b.Open)) {
		t.Errorf("%s: Answer is %.300v, %v; not %.300v", name, got, was, want)
	}
}

func TestExample(t *testing.T) { // 12.1: the chapter's example
	b, why := rpc.Ask(api.Outbox{}, 3, start(qid(1, 2), 1, 4))
	if why != api.OK {
		t.Fatal("Ask: error", why)
	}
	answer(t, "the example", b, 3, started(qid(1, 2), 1, 4))
}

func TestAnswerToStart(t *testing.T) { // 12.1
	b := of(
		ask(1, start(qid(1, 2), 3, 4)),
		ask(2, start(qid(1, 2), 3, 4)), // another node
		ask(1, start(qid(2, 2), 3, 4)), // another opening
		ask(1, start(qid(1, 1), 3, 4)), // another number
		ask(1, start(qid(1, 2), 4, 4)), // another attempt
		ask(1, start(qid(1, 2), 3, 5)), // another fragment
		ask(1, install(shard("t", api.Version{Boot: 1, Load: 2}, 4))),
	)
	answer(t, "the first", b, 1, started(qid(1, 2), 3, 4), 1, 2, 3, 4, 5, 6)
	answer(t, "another node", b, 2, started(qid(1, 2), 3, 4), 0, 2, 3, 4, 5, 6)
	answer(t, "another opening", b, 1, started(qid(2, 2), 3, 4), 0, 1, 3, 4, 5, 6)
	answer(t, "another number", b, 1, started(qid(1, 1), 3, 4), 0, 1, 2, 4, 5, 6)
	answer(t, "another attempt", b, 1, started(qid(1, 2), 4, 4), 0, 1, 2, 3, 5, 6)
	answer(t, "another fragment", b, 1, started(qid(1, 2), 3, 5), 0, 1, 2, 3, 4, 6)
	for what, m := range map[string]api.Msg{
		"opening":  started(qid(3, 2), 3, 4),
		"number":   started(qid(1, 3), 3, 4),
		"attempt":  started(qid(1, 2), 2, 4),
		"fragment": started(qid(1, 2), 3, -4),
		"nothing":  started(qid(0, 0), 0, 0),
	} {
		answer(t, "no such "+what, b, 1, m, 0, 1, 2, 3, 4, 5, 6)
	}
	for _, from := range []int{0, 3, 7, 8, -1, math.MaxInt, math.MinInt} {
		answer(t, "no such node", b, from, started(qid(1, 2), 3, 4), 0, 1, 2, 3, 4, 5, 6)
	}
	// Whatever else it has: the Frag's Id is that which counts.
	m := rich()
	m.Frag.Node, m.Frag.By = 9, 9
	answer(t, "a rich one", of(ask(1, m)), 1, started(qid(1, 2), 3, 4))
}

func TestAnswerToInstall(t *testing.T) { // 12.1
	v := api.Version{Boot: 1, Load: 2}
	b := of(
		ask(1, install(shard("t", v, 3), row(1))),
		ask(2, install(shard("t", v, 3), row(1))),                                   // another node
		ask(1, install(shard("u", v, 3), row(1))),                                   // another table
		ask(1, install(shard("t", api.Version{Boot: 2, Load: 2}, 3), row(1))),       // another opening
		ask(1, install(shard("t", api.Version{Boot: 1, Load: 1}, 3), row(1))),       // another load
		ask(1, install(shard("t", v, 2), row(1))),                                   // another shard
		ask(1, api.Msg{Kind: api.MsgStart, Frag: api.Frag{Left: rich().Frag.Left}}), // no Install
	)
	answer(t, "the first", b, 1, installed(shard("t", v, 3)), 1, 2, 3, 4, 5, 6)
	answer(t, "another node", b, 2, installed(shard("t", v, 3)), 0, 2, 3, 4, 5, 6)
	answer(t, "another table", b, 1, installed(shard("u", v, 3)), 0, 1, 3, 4, 5, 6)
	answer(t, "another opening", b, 1, installed(shard("t", api.Version{Boot: 2, Load: 2}, 3)), 0, 1, 2, 4, 5, 6)
	answer(t, "another load", b, 1, installed(shard("t", api.Version{Boot: 1, Load: 1}, 3)), 0, 1, 2, 3, 5, 6)
	answer(t, "another shard", b, 1, installed(shard("t", v, 2)), 0, 1, 2, 3, 4, 6)
	for what, f := range map[string]api.File{
		"table":   shard("", v, 3),
		"opening": shard("t", api.Version{Boot: 3, Load: 2}, 3),
		"load":    shard("t", api.Version{Boot: 1, Load: 3}, 3),
		"shard":   shard("t", v, -3),
		"nothing": {},
	} {
		answer(t, "no such "+what, b, 1, installed(f), 0, 1, 2, 3, 4, 5, 6)
	}
	for _, from := range []int{0, 3, 7, 8, -1, math.MaxInt, math.MinInt} {
		answer(t, "no such node", b, from, installed(shard("t", v, 3)), 0, 1, 2, 3, 4, 5, 6)
	}
	// Its columns are not asked for.
	answer(t, "other columns", b, 1, installed(api.File{Table: "t", Version: v, Shard: 3, Cols: make([]api.Col, 2)}), 1, 2, 3, 4, 5, 6)
}

func TestAnswersThatFitNothing(t *testing.T) { // 12.1
	b := of(ask(1, rich()), ask(1, richInstall()), ask(1, api.Msg{Kind: api.MsgStart}), ask(1, api.Msg{Kind: api.MsgInstall}))
	for _, m := range slices.Concat(notRight(), []api.Msg{rich(), richInstall(), {Kind: api.MsgStart}, {Kind: api.MsgInstall}}) {
		if m.Kind != api.MsgStarted && m.Kind != api.MsgInstalled {
			answer(t, "no answer", b, 1, m, 0, 1, 2, 3)
		}
	}
	// All but the kind is as it would have to be.
	for kind := range api.MsgKind(16) {
		m := started(qid(1, 2), 3, 4)
		m.File = richInstall().File
		switch m.Kind = kind; kind {
		case api.MsgStarted:
			answer(t, "a Started", b, 1, m, 1, 2, 3)
		case api.MsgInstalled:
			answer(t, "an Installed", b, 1, m, 0, 2, 3)
		default:
			answer(t, "no answer", b, 1, m, 0, 1, 2, 3)
		}
	}
	answer(t, "nothing asked", api.Outbox{}, 1, started(qid(1, 2), 3, 4))
}

func TestAnswerToSeveral(t *testing.T) { // 12.1: all that it fits goes
	v := api.Version{Boot: 1, Load: 2}
	other := rich()
	other.Frag.Node = 7
	b := of(ask(1, rich()), ask(2, rich()), ask(1, other), ask(1, install(shard("t", v, 3))), ask(1, rich()), ask(1, richInstall()), ask(3, richInstall()))
	answer(t, "Starts", b, 1, started(qid(1, 2), 3, 4), 1, 3, 5, 6)
	answer(t, "Installs", b, 1, installed(shard("t", v, 3)), 0, 1, 2, 4, 6)
}

func TestAnswerOfWrongOutboxes(t *testing.T) { // 12.1, P1: nothing is asked but that it fits
	for name, b := range wrong() {
		b.Open = append([]api.Asked{ask(-1, rich()), ask(9, rich()), ask(2, api.Msg{Kind: api.MsgInstall, Seq: 1})}, b.Open...)
		var all []int
		for i := range b.Open {
			all = append(all, i)
		}
		answer(t, name, b, -1, started(qid(1, 2), 3, 4), all[1:]...)
		answer(t, name, b, 9, started(qid(1, 2), 3, 4), slices.Concat(all[:1], all[2:])...)
		answer(t, name, b, 2, api.Msg{Kind: api.MsgInstalled}, slices.Concat(all[:2], all[3:])...)
		answer(t, name, b, 2, installed(shard("none", api.Version{}, 0)), all...)
	}
}

func forget(t *testing.T, name string, b api.Outbox, q api.Qid, left ...int) {
	t.Helper()
	var want api.Outbox
	for _, i := range left {
		want.Open = append(want.Open, b.Open[i])
	}
	if got := rpc.Forget(b, q); !alike(got, want) {
		t.Errorf("%s: Forget is %.300v; not %.300v", name, got, want)
	}
}

func TestForget(t *testing.T) { // 12.1
	b := of(
		ask(1, start(qid(1, 2), 3, 4)), ask(2, start(qid(1, 2), 1, 0)), ask(1, start(qid(2, 2), 3, 4)), ask(7, rich()), ask(1, start(qid(1, 1), 3, 4)),
		ask(1, richInstall()), ask(0, api.Msg{Kind: api.MsgStart}), ask(0, api.Msg{Kind: api.MsgInstall}),
	)
	forget(t, "all attempts and fragments, of all nodes", b, qid(1, 2), 2, 4, 5, 6, 7)
	forget(t, "another opening", b, qid(2, 2), 0, 1, 3, 4, 5, 6, 7)
	forget(t, "another number", b, qid(1, 1), 0, 1, 2, 3, 5, 6, 7)
	forget(t, "0, but no Installs", b, qid(0, 0), 0, 1, 2, 3, 4, 5, 7)
	forget(t, "none", b, qid(2, 1), 0, 1, 2, 3, 4, 5, 6, 7)
	forget(t, "nothing asked", api.Outbox{}, qid(0, 0))
	// Of others that have a query, too, nothing is said, nor of nodes that are none.
	m := api.Msg{Kind: api.MsgInstall, Stream: api.Stream{Query: qid(1, 2)}}
	forget(t, "a wrong one", of(ask(1, m), ask(9, rich()), ask(1, started(qid(1, 2), 3, 4)), ask(1, api.Msg{Kind: api.MsgClean, Stream: m.Stream})), qid(1, 2), 0, 2, 3)
}
