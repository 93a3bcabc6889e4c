package rpc

import "potsherd/api"

// answer is what messages of a kind are answered by: a kind of message, and whether one of these is about the same.
type answer struct {
	kind  api.MsgKind
	about func(asked, m api.Msg) bool
}

// answers are those that there are, by the kind of what was asked.
func answers() map[api.MsgKind]answer {
	return map[api.MsgKind]answer{
		api.MsgStart:   {api.MsgStarted, isFragment},
		api.MsgInstall: {api.MsgInstalled, isShard},
	}
}

// isAnswered tells whether anything answers messages of m's kind.
func isAnswered(m api.Msg) bool {
	_, ok := answers()[m.Kind]
	return ok
}

// fits tells whether m answers what was asked.
func fits(m, asked api.Msg) bool {
	a, ok := answers()[asked.Kind]
	return ok && m.Kind == a.kind && a.about(asked, m)
}

func isFragment(asked, m api.Msg) bool {
	a, b := asked.Stream, m.Stream
	return a.Query == b.Query && a.Attempt == b.Attempt && asked.Frag.Id == b.From
}

func isShard(asked, m api.Msg) bool {
	a, b := asked.File, m.File
	return a.Table == b.Table && a.Version == b.Version && a.Shard == b.Shard
}
