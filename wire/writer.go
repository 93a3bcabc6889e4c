package wire

import "potsherd/api"

// writer is the port that makes a text; it has failed, too, if that is too long.
type writer struct {
	fault
	bytes []byte
}

func (w *writer) failed() bool { return w.found || len(w.bytes) > api.MaxBytes }

func (w *writer) octet(b uint8) uint8 {
	w.bytes = append(w.bytes, b)
	return b
}

func (w *writer) number(n uint64) uint64 {
	left := n
	for left >= more {
		w.octet(uint8(left%more + more))
		left /= more
	}
	w.octet(uint8(left))
	return n
}

func (w *writer) text(s string) string {
	if len(s) > api.MaxQuery {
		w.fail()
		return s
	}
	w.number(uint64(len(s)))
	w.bytes = append(w.bytes, s...)
	return s
}
