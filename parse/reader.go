package parse

import (
	"slices"

	"potsherd/api"
)

// reader goes through the tokens of a query's text.
type reader struct {
	tokens []api.Token // those that are not read
	open   int         // how many brackets are open
	end    int         // how many runes the text has
}

// fault is why reading stopped, and at which place; it is what is panicked with.
type fault struct {
	why api.Errno
	at  int
}

// want tells whether a token is one that may come.
type want func(api.Token) bool

// take reads a token, which must be one of those that may come.
func (r *reader) take(may ...want) api.Token {
	if r.comes(isOpen) && r.open == api.MaxNest {
		panic(fault{api.ErrDepth, r.place()})
	}
	if !r.comes(may...) {
		panic(fault{api.ErrSyntax, r.place()})
	}
	token := r.tokens[0]
	r.tokens = r.tokens[1:]
	switch token.Kind {
	case api.TokenOpen:
		r.open++
	case api.TokenClose:
		r.open--
	}
	return token
}

// comes tells whether the next token is one of those that may come.
func (r *reader) comes(may ...want) bool {
	if len(r.tokens) == 0 {
		return false
	}
	return slices.ContainsFunc(may, func(w want) bool { return w(r.tokens[0]) })
}

// nothing tells that no token may come any more.
func (r *reader) nothing() {
	if len(r.tokens) > 0 {
		panic(fault{api.ErrSyntax, r.place()})
	}
}

// place is the next token's, or that of the end.
func (r *reader) place() int {
	if len(r.tokens) == 0 {
		return r.end
	}
	return r.tokens[0].At
}

func isOpen(t api.Token) bool  { return t.Kind == api.TokenOpen }
func isClose(t api.Token) bool { return t.Kind == api.TokenClose }

// atom wants an atom of one of the texts.
func atom(texts ...string) want {
	return func(t api.Token) bool {
		return t.Kind == api.TokenAtom && slices.Contains(texts, t.Text)
	}
}

func isNameToken(t api.Token) bool   { return t.Kind == api.TokenAtom && isName(t.Text) }
func isColumnToken(t api.Token) bool { return t.Kind == api.TokenAtom && isColumn(t.Text) }
