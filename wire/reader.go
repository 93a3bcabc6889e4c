package wire

import (
	"strings"

	"potsherd/api"
)

// reader is the port that takes a text apart; it fails, if the text ends too early, or is not the one that would have been written.
type reader struct {
	fault
	rest string
}

func (r *reader) octet(uint8) uint8 {
	b := r.take(1)
	if b == "" {
		return 0
	}
	return b[0]
}

func (r *reader) number(uint64) uint64 {
	var n uint64
	for i := range maxGroups {
		b := r.octet(0)
		n += uint64(b%more) << (groupBits * i)
		if b >= more {
			continue
		}
		if b == 0 && i > 0 || b > lastGroup && i == maxGroups-1 {
			break
		}
		return n
	}
	r.fail()
	return 0
}

func (r *reader) text(string) string {
	n := r.number(0)
	if n > api.MaxQuery {
		r.fail()
		return ""
	}
	return strings.Clone(r.take(int(n)))
}

// take is the next n bytes.
func (r *reader) take(n int) string {
	if n > len(r.rest) {
		r.fail()
		return ""
	}
	s := r.rest[:n]
	r.rest = r.rest[n:]
	return s
}
