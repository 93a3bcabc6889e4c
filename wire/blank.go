package wire

// blank is the port that fails, if something is not zero.
type blank struct{ fault }

func (p *blank) octet(b uint8) uint8 {
	p.number(uint64(b))
	return b
}

func (p *blank) number(n uint64) uint64 {
	if n != 0 {
		p.fail()
	}
	return n
}

func (p *blank) text(s string) string {
	p.number(uint64(len(s)))
	return s
}
