package bind

import (
	"slices"
	"strconv"
	"strings"

	"potsherd/api"
)

// Right tells whether b is a bound query of the catalog l.
func Right(b api.Bound, l []api.Table) bool {
	if Check(l) != api.OK {
		return false
	}
	s, known := scopeOf(b.Table, b.Join, l)
	return known && s.isRightJoin(b) && s.isRightWhere(b) && s.isRightGroup(b) && s.areRightItems(b) && s.isAnswer(b)
}

func (s scope) isRightJoin(b api.Bound) bool {
	if b.Join == "" {
		return b.Width == 0 && b.Left == 0 && b.Right == 0
	}
	return b.Join != b.Table && b.Width == s.width && s.joins(b.Left, b.Right)
}

// joins tells whether left is a place in the first table, right one in the second, and both are of one kind.
func (s scope) joins(left, right int) bool {
	if left < 0 || left >= s.width || right < 0 || right >= len(s.columns)-s.width {
		return false
	}
	return s.columns[left].Kind == s.columns[s.width+right].Kind
}

func (s scope) isRightWhere(b api.Bound) bool {
	return len(b.Where) == 0 || s.checkWhere(b.Where) == api.OK
}

// checkWhere tells why rows can't be chosen by the bound expression l.
func (s scope) checkWhere(l []api.Step) api.Errno {
	k, why := Kind(l, s.columns)
	if why == api.OK && k != api.KindBool && k != api.KindNull {
		return api.ErrType
	}
	return why
}

func (s scope) isRightGroup(b api.Bound) bool {
	if len(b.Group) > api.MaxItems {
		return false
	}
	for i, place := range b.Group {
		if place < 0 || place >= len(s.columns) || slices.Contains(b.Group[:i], place) {
			return false
		}
	}
	return true
}

func (s scope) areRightItems(b api.Bound) bool {
	if len(b.Items) == 0 || len(b.Items) > api.MaxItems || b.Grouped != isGrouped(len(b.Group), b.Items) {
		return false
	}
	return !slices.ContainsFunc(b.Items, func(item api.Item) bool { return s.checkItem(item, b) != api.OK })
}

// isGrouped tells whether rows come group by group.
func isGrouped(columns int, items []api.Item) bool {
	return columns > 0 || slices.ContainsFunc(items, func(item api.Item) bool { return item.Agg != api.AggNone })
}

// checkItem tells why the bound item is none of b, of which Group and Grouped are right.
func (s scope) checkItem(item api.Item, b api.Bound) api.Errno {
	switch {
	case item.Agg >= api.AggEnd, item.Agg == api.AggCount && len(item.Expr) > 0:
		return api.ErrSyntax
	case item.Agg == api.AggCount:
		return api.OK
	}
	k, why := Kind(item.Expr, s.columns)
	switch {
	case why != api.OK:
		return why
	case item.Agg == api.AggSum && k != api.KindInt && k != api.KindNull:
		return api.ErrType
	case item.Agg == api.AggNone && b.Grouped && !isOfGroup(item, b.Group):
		return api.ErrName
	}
	return api.OK
}

func isOfGroup(item api.Item, group []int) bool {
	return isColumn(item) && slices.Contains(group, int(item.Expr[0].N))
}

// isColumn tells whether the item is a column as it is.
func isColumn(item api.Item) bool {
	return item.Agg == api.AggNone && len(item.Expr) == 1 && item.Expr[0].Kind == api.StepCol
}

func (s scope) isAnswer(b api.Bound) bool {
	names, kinds := s.answer(b.Items)
	return slices.Equal(b.Names, names) && slices.Equal(b.Kinds, kinds)
}

// answer is the names and the kinds of the columns that right items make.
func (s scope) answer(l []api.Item) ([]string, []api.Kind) {
	var names []string
	var kinds []api.Kind
	for i, item := range l {
		names = append(names, s.nameOfItem(item, i))
		kinds = append(kinds, s.kindOfItem(item))
	}
	return names, kinds
}

func (s scope) nameOfItem(item api.Item, place int) string {
	if isColumn(item) {
		return strings.Clone(s.columns[item.Expr[0].N].Name)
	}
	return "c" + strconv.Itoa(place+1)
}

func (s scope) kindOfItem(item api.Item) api.Kind {
	if item.Agg == api.AggCount || item.Agg == api.AggSum {
		return api.KindInt
	}
	k, _ := Kind(item.Expr, s.columns)
	return k
}
