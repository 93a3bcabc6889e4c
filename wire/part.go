package wire

import (
	"potsherd/api"
	"potsherd/value"
)

func (w walk) kindOfValue(k api.Kind) api.Kind { return kind(w, k) }

func (w walk) value(v api.Value) api.Value {
	v.Kind = kind(w, v.Kind)
	switch v.Kind {
	case api.KindBool:
		v.B = w.flag(v.B)
	case api.KindInt:
		v.N = w.long(v.N)
	case api.KindText:
		v.S = w.text(v.S)
	}
	if value.Check(v) != api.OK {
		w.fail()
	}
	return v
}

func (w walk) row(r api.Row) api.Row { return list(w, r, MaxWire, w.value) }

func (w walk) step(s api.Step) api.Step {
	s.Kind = kind(w, s.Kind)
	s.Text = w.text(s.Text)
	s.N = w.long(s.N)
	return s
}

func (w walk) steps(l []api.Step) []api.Step { return list(w, l, MaxWire, w.step) }

func (w walk) item(i api.Item) api.Item {
	i.Agg = kind(w, i.Agg)
	i.Expr = w.steps(i.Expr)
	return i
}

func (w walk) version(v api.Version) api.Version {
	v.Boot = w.number(v.Boot)
	v.Load = w.number(v.Load)
	return v
}

func (w walk) source(s api.Src) api.Src {
	s.Kind = kind(w, s.Kind)
	s.Table = w.text(s.Table)
	s.Version = w.version(s.Version)
	s.Shard = w.whole(s.Shard)
	s.Frags = w.wholes(s.Frags)
	return s
}

func (w walk) column(c api.Col) api.Col {
	c.Name = w.text(c.Name)
	c.Kind = kind(w, c.Kind)
	return c
}

func (w walk) columns(l []api.Col) []api.Col { return list(w, l, MaxWire, w.column) }

// table is one of a catalog: rows have no place there.
func (w walk) table(t api.Table) api.Table {
	t.Name = w.text(t.Name)
	t.Cols = w.columns(t.Cols)
	if len(t.Rows) > 0 {
		w.fail()
	}
	return t
}

func (w walk) claim(c api.Claim) api.Claim {
	c.Table = w.text(c.Table)
	c.Cols = w.columns(c.Cols)
	c.Version = w.version(c.Version)
	c.Owners = list(w, c.Owners, MaxWire, w.wholes)
	return c
}
