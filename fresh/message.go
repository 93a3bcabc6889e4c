package fresh

import (
	"strings"

	"potsherd/api"
)

// Msg is m in new memory.
func Msg(m api.Msg) api.Msg {
	m.Bound = bound(m.Bound)
	m.Catalog = each(m.Catalog, table)
	m.Frag = frag(m.Frag)
	m.Nodes = plain(m.Nodes)
	m.Rows = Rows(m.Rows)
	m.File = file(m.File)
	m.Claims = Claims(m.Claims)
	return m
}

func bound(b api.Bound) api.Bound {
	b.Table = strings.Clone(b.Table)
	b.Join = strings.Clone(b.Join)
	b.Where = each(b.Where, step)
	b.Group = plain(b.Group)
	b.Items = each(b.Items, item)
	b.Names = each(b.Names, strings.Clone)
	b.Kinds = plain(b.Kinds)
	return b
}

func step(s api.Step) api.Step {
	s.Text = strings.Clone(s.Text)
	return s
}

func item(i api.Item) api.Item {
	i.Expr = each(i.Expr, step)
	return i
}

func frag(f api.Frag) api.Frag {
	f.Left = source(f.Left)
	f.Right = source(f.Right)
	f.To = plain(f.To)
	return f
}

func source(s api.Src) api.Src {
	s.Table = strings.Clone(s.Table)
	s.Frags = plain(s.Frags)
	return s
}

func file(f api.File) api.File {
	f.Table = strings.Clone(f.Table)
	f.Cols = each(f.Cols, column)
	f.Rows = Rows(f.Rows)
	return f
}

// Claims are those of l in new memory.
func Claims(l []api.Claim) []api.Claim { return each(l, Claim) }

// Claim is c in new memory.
func Claim(c api.Claim) api.Claim {
	c.Table = strings.Clone(c.Table)
	c.Cols = each(c.Cols, column)
	c.Owners = each(c.Owners, plain[int])
	return c
}
