package front

import (
	"slices"
	"strings"

	"potsherd/api"
)

const lineEnd = "\n"

// field is what a line has behind its word, and its order in a field.
type field struct {
	show func(o order) string
	read func(o *order, s string) bool
}

// kind is one of lines: the word that it begins with, what it has behind that, and what is done in a run.
type kind struct {
	of     api.OrderKind
	word   string
	fields []field
	do     func(r *run, o api.Order) (uint64, api.Errno)
}

// kinds are all of them.
func kinds() []kind {
	n := field{order.showN, (*order).readN}
	keep := field{order.showKeep, (*order).readKeep}
	text := field{order.showText, (*order).readText}
	return []kind{
		{api.OrderLoad, "load", []field{text}, (*run).load},
		{api.OrderAsk, "ask", []field{text}, (*run).ask},
		{api.OrderTick, "tick", nil, (*run).tick},
		{api.OrderRound, "round", nil, (*run).round},
		{api.OrderDeliver, "deliver", []field{n}, (*run).deliver},
		{api.OrderDrop, "drop", []field{n}, (*run).drop},
		{api.OrderCopy, "copy", []field{n}, (*run).double},
		{api.OrderCrash, "crash", []field{n, keep}, (*run).crash},
		{api.OrderRestart, "restart", []field{n}, (*run).restart},
		{api.OrderFuse, "fuse", []field{n, keep}, (*run).fuse},
	}
}

// kindWhere is the kind of which is tells so, if there is one.
func kindWhere(is func(k kind) bool) (kind, bool) {
	l := kinds()
	i := slices.IndexFunc(l, is)
	if i < 0 {
		return kind{}, false
	}
	return l[i], true
}

func kindFor(o api.Order) (kind, bool) {
	return kindWhere(func(k kind) bool { return k.of == o.Kind })
}

// readLine is the order of a line, which ends with its LF, if it is one.
func readLine(line string) (api.Order, bool) {
	text, ends := strings.CutSuffix(line, lineEnd)
	word, _, _ := strings.Cut(text, " ")
	k, ok := kindWhere(func(k kind) bool { return k.word == word })
	if !ends || !ok {
		return api.Order{}, false
	}
	return k.read(text)
}

// read is the order of a text that begins with k's word; the last field is all that is left, so that a space too many is a part of it.
func (k kind) read(text string) (api.Order, bool) {
	parts := strings.SplitN(text, " ", 1+len(k.fields))
	if parts[0] != k.word || len(parts) != 1+len(k.fields) {
		return api.Order{}, false
	}
	o := order{api.Order{Kind: k.of}}
	for i, f := range k.fields {
		if !f.read(&o, parts[1+i]) {
			return api.Order{}, false
		}
	}
	return o.Order, true
}

// showLine is the line of o, with its LF, if o is right: it is just if it is read as it was, so that there is one rule for both ways.
func showLine(o api.Order) (string, bool) {
	k, ok := kindFor(o)
	if !ok {
		return "", false
	}
	parts := []string{k.word}
	for _, f := range k.fields {
		parts = append(parts, f.show(order{o}))
	}
	text := strings.Join(parts, " ")
	again, ok := k.read(text)
	return text + lineEnd, ok && again == o
}
