package front

import "potsherd/api"

// reader reads the tokens of a table's text. It stops at the first that is not what may come: from there on nothing comes any more.
type reader struct {
	tokens []api.Token // those that are not read
	end    int         // how many runes the text has
	stuck  bool
}

// want tells whether a token may come.
type want func(t api.Token) bool

// comes tells whether the next token may come.
func (r *reader) comes(may want) bool {
	return !r.stuck && len(r.tokens) > 0 && may(r.tokens[0])
}

// take reads the next token, which must be one that may come; else it is none.
func (r *reader) take(may want) api.Token {
	if !r.comes(may) {
		r.stuck = true
		return api.Token{}
	}
	t := r.tokens[0]
	r.tokens = r.tokens[1:]
	return t
}

// isOver tells whether all tokens were read, and none was missing.
func (r *reader) isOver() bool { return !r.stuck && len(r.tokens) == 0 }

// place is the next token's, or that of the end.
func (r *reader) place() int {
	if len(r.tokens) == 0 {
		return r.end
	}
	return r.tokens[0].At
}

func (r *reader) table() api.Table {
	r.take(isOpen)
	r.take(isTable)
	t := api.Table{Name: r.take(isName).Text}
	r.take(isOpen)
	for r.comes(isOpen) {
		t.Cols = append(t.Cols, r.column())
	}
	r.take(isClose)
	for r.comes(isOpen) {
		t.Rows = append(t.Rows, r.row())
	}
	r.take(isClose)
	return t
}

func (r *reader) column() api.Col {
	r.take(isOpen)
	c := api.Col{Name: r.take(isName).Text, Kind: kindOf(r.take(isKind))}
	r.take(isClose)
	return c
}

func (r *reader) row() (row api.Row) {
	r.take(isOpen)
	for r.comes(isValue) {
		v, _ := valueOf(r.take(isValue))
		row = append(row, v)
	}
	r.take(isClose)
	return row
}

func isOpen(t api.Token) bool  { return t.Kind == api.TokenOpen }
func isClose(t api.Token) bool { return t.Kind == api.TokenClose }
func isTable(t api.Token) bool { return t.Kind == api.TokenAtom && t.Text == tableWord }
func isName(t api.Token) bool  { return t.Kind == api.TokenAtom || t.Kind == api.TokenText }
func isKind(t api.Token) bool  { return kindOf(t) != api.KindNull }

func isValue(t api.Token) bool {
	_, ok := valueOf(t)
	return ok
}

// kindOf is the kind of a column that the token tells; KindNull, which no column has, if it tells none.
func kindOf(t api.Token) api.Kind {
	if t.Kind != api.TokenAtom {
		return api.KindNull
	}
	switch t.Text {
	case boolWord:
		return api.KindBool
	case intWord:
		return api.KindInt
	case textWord:
		return api.KindText
	}
	return api.KindNull
}

// valueOf is the value that the token tells, if it does.
func valueOf(t api.Token) (api.Value, bool) {
	switch t.Kind {
	case api.TokenInt:
		return api.Value{Kind: api.KindInt, N: t.N}, true
	case api.TokenText:
		return api.Value{Kind: api.KindText, S: t.Text}, true
	case api.TokenAtom:
		return constantOf(t.Text)
	}
	return api.Value{}, false
}

// constantOf is the value that has a word of its own.
func constantOf(word string) (api.Value, bool) {
	switch word {
	case nullWord:
		return api.Value{}, true
	case trueWord:
		return api.Value{Kind: api.KindBool, B: true}, true
	case falseWord:
		return api.Value{Kind: api.KindBool}, true
	}
	return api.Value{}, false
}
