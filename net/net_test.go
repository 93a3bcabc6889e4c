package net_test

import (
	"math"
	"reflect"
	"slices"
	"strings"
	"testing"

	"potsherd/api"
	"potsherd/net"
)

func packet(from, to int, text string) api.Packet {
	return api.Packet{From: from, To: to, Text: text}
}

func of(l ...api.Packet) api.Net { return api.Net{Packets: l} }

// few are three packets, no two of them alike.
func few() api.Net { return of(packet(0, 7, "a"), packet(7, 0, "b"), packet(1, 2, "")) }

// many are n packets between all nodes in turn.
func many(n int) (all api.Net) {
	for i := range n {
		all.Packets = append(all.Packets, packet(i%8, i/8%8, strings.Repeat("x", i%5)))
	}
	return all
}

// long is a text of n bytes.
func long(n int) string { return strings.Repeat("\xff", n) }

// alike tells whether two nets are, nil and empty lists being so.
func alike(a, b api.Net) bool { return slices.Equal(a.Packets, b.Packets) }

func isZero(n api.Net) bool { return len(n.Packets) == 0 }

// right are nets that are.
func right() map[string]api.Net {
	return map[string]api.Net{
		"empty":            {},
		"one of nothing":   of(packet(0, 0, "")),
		"the last nodes":   of(packet(7, 7, "x")),
		"few":              few(),
		"to itself":        of(packet(3, 3, "x"), packet(3, 3, "x")),
		"bytes, not UTF-8": of(packet(1, 2, "\xff\x00é")),
		"as long as may":   of(packet(1, 2, long(65536)), packet(2, 1, long(65535))),
		"nearly full":      many(4095),
		"full":             many(4096),
		"full of nothing":  of(make([]api.Packet, 4096)...),
	}
}

// wrong are nets that are not right.
func wrong() map[string]api.Net {
	l := map[string]api.Net{
		"one more":                many(4097),
		"one more of nothing":     of(make([]api.Packet, 4097)...),
		"far more":                many(9999),
		"a byte more":             of(packet(1, 2, long(65537))),
		"a byte more behind":      of(append(few().Packets, packet(1, 2, long(65537)))...),
		"far longer":              of(packet(1, 2, long(1<<20))),
		"one more, and one wrong": of(append(many(4096).Packets, packet(8, 0, ""))...),
		"the last of full":        of(append(many(4095).Packets, packet(0, 8, ""))...),
	}
	for name, n := range map[string]int{"below 0": -1, "one past": 8, "far below": math.MinInt, "far past": math.MaxInt} {
		l["from "+name] = of(packet(n, 0, ""))
		l["to "+name] = of(packet(0, n, ""))
		l["the second from "+name] = of(packet(0, 0, ""), packet(n, 7, ""))
		l["the first to "+name] = of(packet(7, n, ""), packet(0, 0, ""))
	}
	return l
}

func TestCheck(t *testing.T) { // 14.1
	for name, n := range right() {
		if why := net.Check(n); why != api.OK {
			t.Errorf("%s: error %d", name, why)
		}
	}
	for name, n := range wrong() {
		if why := net.Check(n); why != api.ErrState {
			t.Errorf("%s: error %d", name, why)
		}
	}
}

func TestWrongNets(t *testing.T) { // 14.1, P2: that first, whatever else is wrong
	for name, n := range wrong() {
		for _, i := range []int{0, 1, -1, len(n.Packets) - 1, len(n.Packets), math.MaxInt, math.MinInt} {
			sent, why := net.Send(n, i, 0, "x")
			if why != api.ErrState || !isZero(sent) {
				t.Errorf("%s: Send from %d is %v, error %d", name, i, sent, why)
			}
			left, p, why := net.Deliver(n, i)
			if why != api.ErrState || !isZero(left) || p != (api.Packet{}) {
				t.Errorf("%s: Deliver %d is %v, %v, error %d", name, i, left, p, why)
			}
			if left, why := net.Drop(n, i); why != api.ErrState || !isZero(left) {
				t.Errorf("%s: Drop %d is %v, error %d", name, i, left, why)
			}
			if more, why := net.Copy(n, i); why != api.ErrState || !isZero(more) {
				t.Errorf("%s: Copy %d is %v, error %d", name, i, more, why)
			}
		}
		if sent, why := net.Send(n, 1, 2, long(65537)); why != api.ErrState || !isZero(sent) {
			t.Errorf("%s: Send of a long text is %v, error %d", name, sent, why)
		}
	}
}

func sends(t *testing.T, name string, n api.Net, from, to int, text string) {
	t.Helper()
	want := of(append(slices.Clone(n.Packets), packet(from, to, text))...)
	if got, why := net.Send(n, from, to, text); why != api.OK || !alike(got, want) {
		t.Errorf("%s: Send is %v, error %d", name, got, why)
	}
}

func refusesToSend(t *testing.T, name string, n api.Net, from, to int, text string, want api.Errno) {
	t.Helper()
	if got, why := net.Send(n, from, to, text); why != want || !alike(got, n) {
		t.Errorf("%s: Send is %v, error %d; not error %d", name, got, why, want)
	}
}

func TestSend(t *testing.T) { // 14.1
	sends(t, "the first", api.Net{}, 1, 2, "x")
	sends(t, "nothing", api.Net{}, 0, 0, "")
	sends(t, "between the last nodes", few(), 7, 7, "x")
	sends(t, "the first one again", few(), 0, 7, "a")
	sends(t, "as long as may be", few(), 1, 2, long(65536))
	sends(t, "bytes, not UTF-8", few(), 1, 2, "\xff\x00é")
	sends(t, "the last that may be", many(4095), 3, 4, "x")
	for from := range 8 {
		for to := range 8 {
			sends(t, "all nodes", few(), from, to, "x")
		}
	}
}

func TestSendErrors(t *testing.T) { // 14.1, P2
	for name, n := range right() {
		for _, x := range []int{-1, 8, 9, math.MinInt, math.MaxInt} {
			for _, text := range []string{"", "x", long(65537)} {
				refusesToSend(t, name+", from no node", n, x, 0, text, api.ErrRange)
				refusesToSend(t, name+", to no node", n, 0, x, text, api.ErrRange)
				refusesToSend(t, name+", from none to none", n, x, x, text, api.ErrRange)
			}
		}
		refusesToSend(t, name+", a byte more", n, 1, 2, long(65537), api.ErrLong)
		refusesToSend(t, name+", far longer", n, 7, 0, long(1<<20), api.ErrLong)
	}
	for _, text := range []string{"", "x", long(65536)} {
		refusesToSend(t, "full", many(4096), 1, 2, text, api.ErrFull)
		refusesToSend(t, "full of nothing", of(make([]api.Packet, 4096)...), 0, 0, text, api.ErrFull)
	}
}

// takesOut says that Deliver and Drop of the packet at i leave the others, in their order.
func takesOut(t *testing.T, name string, n api.Net, i int) {
	t.Helper()
	want := of(slices.Delete(slices.Clone(n.Packets), i, i+1)...)
	if got, p, why := net.Deliver(n, i); why != api.OK || p != n.Packets[i] || !alike(got, want) {
		t.Errorf("%s: Deliver %d is %v, %v, error %d", name, i, got, p, why)
	}
	if got, why := net.Drop(n, i); why != api.OK || !alike(got, want) {
		t.Errorf("%s: Drop %d is %v, error %d", name, i, got, why)
	}
}

func TestDeliverAndDrop(t *testing.T) { // 14.1
	for name, n := range right() {
		last := len(n.Packets) - 1
		for _, i := range []int{0, 1, last / 2, last} {
			if i >= 0 && i <= last {
				takesOut(t, name, n, i)
			}
		}
	}
}

func TestDeliverOneByOne(t *testing.T) { // 14.1
	n := few()
	for _, x := range []struct {
		at   int
		want api.Packet
	}{{1, packet(7, 0, "b")}, {1, packet(1, 2, "")}, {0, packet(0, 7, "a")}} {
		left, p, why := net.Deliver(n, x.at)
		if why != api.OK || p != x.want {
			t.Errorf("Deliver %d of %v is %v, error %d", x.at, n, p, why)
		}
		n = left
	}
	if left, p, why := net.Deliver(n, 0); why != api.ErrUnknown || !isZero(left) || p != (api.Packet{}) {
		t.Errorf("nothing is left: Deliver is %v, %v, error %d", left, p, why)
	}
}

func TestCopy(t *testing.T) { // 14.1
	for name, n := range right() {
		last := len(n.Packets) - 1
		for _, i := range []int{0, 1, last / 2, last} {
			if i < 0 || i > last {
				continue
			}
			got, why := net.Copy(n, i)
			if last == 4095 {
				if why != api.ErrFull || !alike(got, n) {
					t.Errorf("%s: Copy %d: error %d", name, i, why)
				}
			} else if want := of(append(slices.Clone(n.Packets), n.Packets[i])...); why != api.OK || !alike(got, want) {
				t.Errorf("%s: Copy %d is %v, error %d", name, i, got, why)
			}
		}
	}
}

func TestPlacesOfNoPacket(t *testing.T) { // 14.1, P2
	for name, n := range right() {
		for _, i := range []int{-1, -2, math.MinInt, len(n.Packets), len(n.Packets) + 1, math.MaxInt} {
			if left, p, why := net.Deliver(n, i); why != api.ErrUnknown || !alike(left, n) || p != (api.Packet{}) {
				t.Errorf("%s: Deliver %d is %v, %v, error %d", name, i, left, p, why)
			}
			if left, why := net.Drop(n, i); why != api.ErrUnknown || !alike(left, n) {
				t.Errorf("%s: Drop %d is %v, error %d", name, i, left, why)
			}
			// Of a full net, too, as ErrUnknown is named ahead of ErrFull.
			if more, why := net.Copy(n, i); why != api.ErrUnknown || !alike(more, n) {
				t.Errorf("%s: Copy %d is %v, error %d", name, i, more, why)
			}
		}
	}
}

func TestExample(t *testing.T) { // 14.1: the chapter's
	n, _ := net.Send(api.Net{}, 1, 2, "a")
	n, _ = net.Copy(n, 0)
	n, p, why := net.Deliver(n, 1)
	if want := packet(1, 2, "a"); why != api.OK || p != want || !reflect.DeepEqual(n, of(want)) {
		t.Errorf("Deliver is %v, %v, error %d", n, p, why)
	}
}
