package wire

// port is what a message's parts go through, one by one: each is handed in as it is, and comes out as it is behind the port. One that writes answers what it was given; one that reads is given zeros, and answers what it read.
type port interface {
	octet(b uint8) uint8
	number(n uint64) uint64
	text(s string) string
	fail()
	failed() bool
}

// fault is whether something went wrong. It stays: what comes behind it is no matter.
type fault struct{ found bool }

func (f *fault) fail() { f.found = true }

func (f *fault) failed() bool { return f.found }
