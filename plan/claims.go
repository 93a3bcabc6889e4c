package plan

import (
	"slices"
	"strings"

	"potsherd/api"
	"potsherd/place"
)

// Check tells why claims are not right of the layout l.
func Check(l api.Layout, claims []api.Claim) api.Errno {
	if why := place.Check(l); why != api.OK {
		return why
	}
	if len(claims) > api.MaxTables {
		return api.ErrMany
	}
	for i, c := range claims {
		if why := place.CheckClaim(l, c); why != api.OK {
			return why
		}
		if _, there := find(claims[:i], c.Table); there {
			return api.ErrTwice
		}
	}
	return api.OK
}

// find is the claim of that table.
func find(claims []api.Claim, table string) (api.Claim, bool) {
	i := slices.IndexFunc(claims, func(c api.Claim) bool { return c.Table == table })
	if i < 0 {
		return api.Claim{}, false
	}
	return claims[i], true
}

// Catalog is the tables that claims name, without rows; whether the claims are right is no matter.
func Catalog(claims []api.Claim) []api.Table {
	tables := make([]api.Table, len(claims))
	for i, c := range claims {
		tables[i] = api.Table{Name: strings.Clone(c.Table), Cols: copyCols(c.Cols)}
	}
	return tables
}

// copyCols copies the names, too, since an answer shares none with what was handed in.
func copyCols(l []api.Col) []api.Col {
	cols := make([]api.Col, len(l))
	for i, c := range l {
		cols[i] = api.Col{Name: strings.Clone(c.Name), Kind: c.Kind}
	}
	return cols
}
