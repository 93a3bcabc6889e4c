package wire

// MaxWire is how many parts a list has, if they are no rows.
const MaxWire = 64

// maxRows is how many rows a message has.
const maxRows = 512

// A number's text is made of groups of its bits, a byte each.
const (
	groupBits = 7
	more      = 1 << groupBits // what a byte has beyond its group, if another one is behind it
	maxGroups = 10             // of 64 bits
	lastGroup = 1              // the greatest that the tenth group may be
)

// walk goes through a message's parts in the order of their texts, whatever becomes of them there: each is handed to the port, and is then what the port answers.
type walk struct{ port }

// kind is a byte that tells what something is, of whatever thing.
func kind[K ~uint8](w walk, k K) K { return K(w.octet(uint8(k))) }

func (w walk) flag(b bool) bool {
	var n uint8
	if b {
		n = 1
	}
	n = w.octet(n)
	if n > 1 {
		w.fail()
	}
	return n == 1
}

// long goes as a number: those from 0 on are the even ones, those below 0 the odd ones.
func (w walk) long(n int64) int64 {
	u := 2 * uint64(n)
	if n < 0 {
		u = 2*uint64(-(n+1)) + 1
	}
	u = w.number(u)
	if u%2 == 1 {
		return -int64(u/2) - 1
	}
	return int64(u / 2)
}

func (w walk) whole(n int) int { return int(w.long(int64(n))) }

func (w walk) wholes(l []int) []int { return list(w, l, MaxWire, w.whole) }

// list goes through how many parts there are, and these.
func list[T any](w walk, l []T, most uint64, part func(T) T) []T {
	n := w.number(uint64(len(l)))
	if n > most {
		w.fail()
	}
	if _, reads := w.port.(*reader); reads {
		return taken(w, n, part)
	}
	for _, x := range l {
		if w.failed() {
			break
		}
		part(x)
	}
	return l
}

// taken is a new list of n parts, each of them as it comes out of nothing.
func taken[T any](w walk, n uint64, part func(T) T) []T {
	var l []T
	for range n {
		if w.failed() {
			return nil
		}
		var none T
		l = append(l, part(none))
	}
	return l
}
