package net

import (
	"slices"
	"strings"

	"potsherd/api"
)

func isWrong(p api.Packet) bool { return !isNode(p.From) || !isNode(p.To) || isLong(p.Text) }

func isNode(n int) bool { return n >= 0 && n < api.MaxNodes }

func isLong(text string) bool { return len(text) > api.MaxBytes }

func isFull(n api.Net) bool { return len(n.Packets) >= api.MaxPackets }

// refuse tells why such a packet is not sent.
func refuse(n api.Net, from, to int, text string) api.Errno {
	switch {
	case Check(n) != api.OK:
		return api.ErrState
	case !isNode(from) || !isNode(to):
		return api.ErrRange
	case isLong(text):
		return api.ErrLong
	case isFull(n):
		return api.ErrFull
	}
	return api.OK
}

// miss tells why no packet is found at i.
func miss(n api.Net, i int) api.Errno {
	switch {
	case Check(n) != api.OK:
		return api.ErrState
	case i < 0 || i >= len(n.Packets):
		return api.ErrUnknown
	}
	return api.OK
}

// beside is what is told of n with the error why: all of it, unless it is not right.
func beside(why api.Errno, n api.Net) api.Net {
	if why == api.ErrState {
		return api.Net{}
	}
	return netOf(n.Packets)
}

// netOf is a net of all these lists of packets, one behind the other, in new memory.
func netOf(lists ...[]api.Packet) api.Net {
	packets := slices.Concat(lists...)
	for i, p := range packets {
		packets[i] = newPacket(p)
	}
	return api.Net{Packets: packets}
}

// newPacket is p in new memory: a text is memory, too.
func newPacket(p api.Packet) api.Packet {
	p.Text = strings.Clone(p.Text)
	return p
}
