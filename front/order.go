package front

import (
	"math"
	"strconv"
	"strings"

	"potsherd/api"
)

// order is one whose fields are read from a line, and shown there.
type order struct{ api.Order }

func (o order) showN() string    { return strconv.Itoa(o.N) }
func (o order) showKeep() string { return strconv.Itoa(o.Keep) }
func (o order) showText() string { return o.Text }

func (o *order) readN(s string) (ok bool) {
	o.N, ok = readNumber(s)
	return ok
}

func (o *order) readKeep(s string) (ok bool) {
	o.Keep, ok = readNumber(s)
	return ok
}

// readText takes a text that a query's, or a table's, may be as long as.
func (o *order) readText(s string) bool {
	o.Text = strings.Clone(s)
	return len(s) <= api.MaxQuery && !strings.Contains(s, lineEnd)
}

// readNumber takes a number as it is written alone: so it has no sign, and no needless noughts.
func readNumber(s string) (int, bool) {
	n, err := strconv.Atoi(s)
	return n, err == nil && n >= 0 && n <= math.MaxInt32 && strconv.Itoa(n) == s
}
