package fresh

import (
	"strings"

	"potsherd/api"
)

// World is w in new memory.
func World(w api.World) api.World {
	w.Coord = Coord(w.Coord)
	w.Workers = each(w.Workers, Worker)
	w.Up = plain(w.Up)
	w.Net.Packets = each(w.Net.Packets, packet)
	w.Answers = each(w.Answers, told)
	return w
}

func packet(p api.Packet) api.Packet {
	p.Text = strings.Clone(p.Text)
	return p
}

func told(x api.Told) api.Told {
	x.Answer = answer(x.Answer)
	return x
}
