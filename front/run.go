package front

import (
	"strconv"
	"strings"

	"potsherd/api"
	"potsherd/world"
)

// run is a script that is being done: the world as it is by now, and what came of it.
type run struct {
	world api.World
	lines strings.Builder
}

// errorNames are the errors' names, by their numbers.
var errorNames = [...]string{
	"ok", "nil", "range", "many", "long", "type", "state", "unknown", "full", "utf",
	"depth", "wire", "down", "syntax", "name", "twice", "over", "stale", "unavailable",
}

func nameOf(why api.Errno) string {
	if why < 0 || int(why) >= len(errorNames) {
		return unknown
	}
	return errorNames[why]
}

// follow does what o says, and tells what comes of it.
func (r *run) follow(o api.Order) {
	k, ok := kindFor(o)
	if !ok {
		return
	}
	n, why := k.do(r, o)
	words := []string{nameOf(why)}
	if n > 0 {
		words = append(words, showNumber(n))
	}
	r.tell(words...)
	for _, a := range r.world.Answers {
		r.tell(answerWords(a)...)
	}
	// What is told is no matter to the world: with it each step would copy all answers again.
	r.world.Answers = nil
}

// tell writes a line.
func (r *run) tell(words ...string) {
	r.lines.WriteString(strings.Join(words, " ") + lineEnd)
}

func showNumber(n uint64) string { return strconv.FormatUint(n, 10) }

func answerWords(a api.Told) []string {
	words := []string{"answer", showNumber(a.Boot), showNumber(a.Answer.N), nameOf(a.Answer.Why)}
	if a.Answer.Why != api.OK || len(a.Answer.Names) == 0 {
		return words
	}
	words = append(words, ShowRow(textRow(a.Answer.Names)))
	for _, row := range a.Answer.Rows {
		words = append(words, ShowRow(row))
	}
	return words
}

// textRow is a row of these texts.
func textRow(texts []string) (r api.Row) {
	for _, s := range texts {
		r = append(r, api.Value{Kind: api.KindText, S: s})
	}
	return r
}

func (r *run) load(o api.Order) (n uint64, why api.Errno) {
	t, why, _ := ReadTable(o.Text)
	if why != api.OK {
		return 0, why
	}
	r.world, n, why = world.Load(r.world, t)
	return n, why
}

func (r *run) ask(o api.Order) (n uint64, why api.Errno) {
	r.world, n, why = world.Ask(r.world, o.Text)
	return n, why
}

func (r *run) tick(api.Order) (_ uint64, why api.Errno) {
	r.world, why = world.Tick(r.world)
	return 0, why
}

// round delivers what is under way at its beginning; what comes of that waits for the next one.
func (r *run) round(o api.Order) (uint64, api.Errno) {
	for range len(r.world.Net.Packets) {
		r.deliver(api.Order{})
	}
	return r.tick(o)
}

func (r *run) deliver(o api.Order) (_ uint64, why api.Errno) {
	r.world, why = world.Deliver(r.world, o.N)
	return 0, why
}

func (r *run) drop(o api.Order) (_ uint64, why api.Errno) {
	r.world, why = world.Drop(r.world, o.N)
	return 0, why
}

func (r *run) double(o api.Order) (_ uint64, why api.Errno) {
	r.world, why = world.Copy(r.world, o.N)
	return 0, why
}

func (r *run) crash(o api.Order) (_ uint64, why api.Errno) {
	r.world, why = world.Crash(r.world, o.N, o.Keep)
	return 0, why
}

func (r *run) restart(o api.Order) (_ uint64, why api.Errno) {
	r.world, why = world.Restart(r.world, o.N)
	return 0, why
}

func (r *run) fuse(o api.Order) (_ uint64, why api.Errno) {
	r.world, why = world.Fuse(r.world, o.N, o.Keep)
	return 0, why
}
