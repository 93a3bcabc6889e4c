package wire

import (
	"slices"

	"potsherd/api"
)

type kinds []api.MsgKind

// field is one of a message: what goes through it, and the kinds of messages that have it.
type field struct {
	through func(m *api.Msg)
	of      kinds
}

// fields are all of them, in the order of their texts, which is the same for every kind.
func (w walk) fields() []field {
	return []field{
		{w.boot, kinds{api.MsgBeat}},
		{w.query, kinds{api.MsgStart, api.MsgStarted, api.MsgBatch, api.MsgAck, api.MsgClean}},
		{w.attempt, kinds{api.MsgStart, api.MsgStarted, api.MsgBatch, api.MsgAck}},
		{w.from, kinds{api.MsgStarted, api.MsgBatch, api.MsgAck}},
		{w.to, kinds{api.MsgBatch, api.MsgAck}},
		{w.bound, kinds{api.MsgStart}},
		{w.catalog, kinds{api.MsgStart}},
		{w.frag, kinds{api.MsgStart}},
		{w.nodes, kinds{api.MsgStart}},
		{w.seq, kinds{api.MsgBatch, api.MsgAck}},
		{w.last, kinds{api.MsgBatch}},
		{w.rows, kinds{api.MsgBatch}},
		{w.file, kinds{api.MsgInstall, api.MsgInstalled}},
		{w.fileRows, kinds{api.MsgInstall}},
		{w.claims, kinds{api.MsgClaims}},
	}
}

// message goes through m's kind, and the fields that it has.
func (w walk) message(m *api.Msg) {
	m.Kind = kind(w, m.Kind)
	if m.Kind == api.MsgNone || m.Kind >= api.MsgCount {
		w.fail()
	}
	for _, f := range w.fields() {
		if slices.Contains(f.of, m.Kind) {
			f.through(m)
		}
	}
}

// otherFields goes through those that m's kind has not.
func (w walk) otherFields(m *api.Msg) {
	for _, f := range w.fields() {
		if !slices.Contains(f.of, m.Kind) {
			f.through(m)
		}
	}
}

func (w walk) boot(m *api.Msg) { m.Boot = w.number(m.Boot) }

func (w walk) query(m *api.Msg) {
	m.Stream.Query.Boot = w.number(m.Stream.Query.Boot)
	m.Stream.Query.N = w.number(m.Stream.Query.N)
}

func (w walk) attempt(m *api.Msg) { m.Stream.Attempt = w.whole(m.Stream.Attempt) }

func (w walk) from(m *api.Msg) { m.Stream.From = w.whole(m.Stream.From) }

func (w walk) to(m *api.Msg) { m.Stream.To = w.whole(m.Stream.To) }

func (w walk) bound(m *api.Msg) {
	b := &m.Bound
	b.Table = w.text(b.Table)
	b.Join = w.text(b.Join)
	b.Width = w.whole(b.Width)
	b.Left = w.whole(b.Left)
	b.Right = w.whole(b.Right)
	b.Where = w.steps(b.Where)
	b.Group = w.wholes(b.Group)
	b.Items = list(w, b.Items, MaxWire, w.item)
	b.Grouped = w.flag(b.Grouped)
	b.Names = list(w, b.Names, MaxWire, w.text)
	b.Kinds = list(w, b.Kinds, MaxWire, w.kindOfValue)
}

func (w walk) catalog(m *api.Msg) { m.Catalog = list(w, m.Catalog, MaxWire, w.table) }

func (w walk) frag(m *api.Msg) {
	f := &m.Frag
	f.Id = w.whole(f.Id)
	f.Node = w.whole(f.Node)
	f.Left = w.source(f.Left)
	f.Right = w.source(f.Right)
	f.Raw = w.flag(f.Raw)
	f.By = w.whole(f.By)
	f.To = w.wholes(f.To)
}

func (w walk) nodes(m *api.Msg) { m.Nodes = w.wholes(m.Nodes) }

func (w walk) seq(m *api.Msg) { m.Seq = w.number(m.Seq) }

func (w walk) last(m *api.Msg) { m.Last = w.flag(m.Last) }

func (w walk) rows(m *api.Msg) { m.Rows = list(w, m.Rows, maxRows, w.row) }

// file is all of one but its rows.
func (w walk) file(m *api.Msg) {
	f := &m.File
	f.Table = w.text(f.Table)
	f.Version = w.version(f.Version)
	f.Shard = w.whole(f.Shard)
	f.Cols = w.columns(f.Cols)
}

func (w walk) fileRows(m *api.Msg) { m.File.Rows = list(w, m.File.Rows, maxRows, w.row) }

func (w walk) claims(m *api.Msg) { m.Claims = list(w, m.Claims, MaxWire, w.claim) }
