package coord_test

import (
	"math"
	"slices"
	"testing"

	"potsherd/api"
	"potsherd/coord"
	"potsherd/files"
)

func TestTick(t *testing.T) { // 18.4: with nothing to do
	c := quiet()
	n := &node{t, c}
	for range 20 {
		c.Now++
		n.tick("quiet")
		n.is("quiet", c)
	}
	c = with(func(c *api.Coord) { c.Now = most - 1 })
	n = &node{t, c}
	c.Now = most
	for range 3 { // 2^64 - 1 stays
		n.tick("the last tick")
		n.is("the last tick", c)
	}
}

func TestTickRepeats(t *testing.T) { // 18.4: run by run its Starts, and Acks of what has not all come
	c := running(quiet(), all, shuffled)
	first, second := &c.Runs[0], &c.Runs[1]
	s := first.Ins[0].Stream
	first.Ins[0] = in(s, batches(s, ts(0, 60))[:3]...)
	done := first.Ins[1].Stream
	first.Ins[1] = in(done, batches(done, ts(0, 3))...)
	ahead := second.Ins[2].Stream
	second.Ins[2] = in(ahead, batches(ahead, ts(0, 60))[1])
	want := slices.Concat(
		starts(c, *first), post(first.Frags[0].Node, ack(s, 3)), post(first.Frags[2].Node, ack(link(c, *first, 2), 0)),
		starts(c, *second), post(second.Frags[6].Node, ack(link(c, *second, 6), 0)), post(second.Frags[7].Node, ack(link(c, *second, 7), 0)), post(second.Frags[8].Node, ack(ahead, 0)))
	n := &node{t, c}
	for now := uint64(21); now < 28; now++ { // the leases last so long
		n.tick("again", want...)
		c.Now = now
		n.is("again", c)
	}
}

// gone is c whose node told nothing for long, at its next tick.
func gone(c api.Coord, nodes ...int) api.Coord {
	c.Leases.Seen = slices.Clone(c.Leases.Seen)
	for _, node := range nodes {
		c.Leases.Seen[node] = 13
	}
	return c
}

// anew is c whose node was opened once more.
func anew(c api.Coord, nodes ...int) api.Coord {
	c.Leases.Boots = slices.Clone(c.Leases.Boots)
	for _, node := range nodes {
		c.Leases.Boots[node]++
	}
	return c
}

func TestTickBeginsAgain(t *testing.T) { // 18.4: a node that is not alive any more, or was opened anew
	for name, x := range map[string]struct {
		change func(c api.Coord, nodes ...int) api.Coord
		nodes  []int
	}{
		"a lease ends":            {gone, []int{1}},
		"another one ends":        {gone, []int{2}}, // the third shard's fragment runs elsewhere
		"one is opened anew":      {anew, []int{3}},
		"several are opened anew": {anew, []int{1, 2, 3}},
	} {
		c := asked(all)
		before := c.Runs[0]
		isOf := slices.ContainsFunc(before.Frags, func(f api.Frag) bool { return slices.Contains(x.nodes, f.Node) })
		c = x.change(c, x.nodes...)
		n := &node{t, c}
		c.Now = 21
		if isOf {
			c.Runs = []api.Run{run(c, 31, all, 2)}
			n.tick(name, starts(c, c.Runs[0])...)
		} else {
			n.tick(name, append(starts(c, before), acks(before)...)...)
		}
		n.is(name, c)
		n.tick(name+", a tick later", append(starts(c, c.Runs[0]), acks(c.Runs[0])...)...)
	}
}

func TestTickBeginsWithNothing(t *testing.T) { // 18.4: what came of the attempt before is no more
	c := asked(all)
	r := c.Runs[0]
	for i := range 2 {
		r.Ins[i] = in(r.Ins[i].Stream, batches(r.Ins[i].Stream, ts(0, 30))...)
	}
	c = anew(c, 1)
	n := &node{t, c}
	c.Now, c.Runs = 21, []api.Run{run(c, 31, all, 2)}
	n.tick("opened anew", starts(c, c.Runs[0])...)
	n.is("opened anew", c)
	n.ignores("a batch of the attempt before", 1, batches(link(c, r, 2), ts(0, 3))[0])
	for from := range 3 {
		n.Coord, _ = coord.Receive(n.Coord, 1, batches(link(c, c.Runs[0], from), ts(from, from+1))[0])
	}
	if want := []api.Answer{{N: 31, Names: []string{"k", "s"}, Rows: ts(0, 3)}}; !alike(n.Answers, want) {
		t.Error("the answers are", n.Answers)
	}
}

func TestTickOfAnOpeningBefore(t *testing.T) { // 18.4: another Boot, whichever
	for _, b := range []uint64{0, 4, 6, most} {
		c := asked(all)
		c.Runs[0].Boots[0] = b
		n := &node{t, c}
		c.Now = 21
		c.Runs = []api.Run{run(c, 31, all, 2)}
		n.tick("another Boot", starts(c, c.Runs[0])...)
		n.is("another Boot", c)
	}
}

func TestAttempts(t *testing.T) { // 18.4, 18.2: MaxAttempts, and one more
	c := asked(all)
	n := &node{t, c}
	for attempt := 2; attempt <= 4; attempt++ {
		n.Coord = anew(n.Coord, 1)
		c = n.Coord
		c.Now++
		c.Runs = []api.Run{run(c, 31, all, attempt)}
		n.tick("another attempt", starts(c, c.Runs[0])...)
		n.is("another attempt", c)
	}
	n.tick("the last one goes on", append(starts(c, c.Runs[0]), acks(c.Runs[0])...)...)
	n.Coord = anew(n.Coord, 3)
	c = n.Coord
	n.tick("one too many", cleans(c, 31)...)
	c.Now++
	c.Runs, c.Answers = nil, []api.Answer{failed(31, api.ErrUnavailable)}
	n.is("one too many", c)
	n.tick("behind it")
}

func TestTickUnavailable(t *testing.T) { // 18.4: no owner is alive any more
	c := gone(running(quiet(), all, elsewhere, shuffled, counted), 2, 3)
	n := &node{t, c}
	c.Now = 21
	var want []api.Post
	for i, r := range c.Runs { // the second shard has no other owners
		want = append(want, cleans(c, r.N)...)
		c.Answers = append(c.Answers, failed(uint64(31+i), api.ErrUnavailable))
	}
	c.Runs = nil
	n.tick("two are gone", want...)
	n.is("two are gone", c)
}

func TestTickRunByRun(t *testing.T) { // 18.4: some go on, some begin again, some are answered
	c := running(quiet(), all, elsewhere, all, counted)
	c.Runs[2].Attempt = 4
	c.Runs[2].Boots[0]-- // what runs there was opened anew since
	c.Runs[3].Boots[1]--
	n := &node{t, c}
	c.Now = 21
	begun := run(c, 34, counted, 2)
	n.tick("four runs", slices.Concat(starts(c, c.Runs[0]), acks(c.Runs[0]), starts(c, c.Runs[1]), acks(c.Runs[1]), cleans(c, 33), starts(c, begun))...)
	c.Answers = []api.Answer{failed(33, api.ErrUnavailable)}
	c.Runs = []api.Run{c.Runs[0], c.Runs[1], begun}
	n.is("four runs", c)
}

func TestTickOfRunsMadeByHand(t *testing.T) { // 18.4: without Frags, of streams of none
	c := withRun(func(r *api.Run) { r.Frags, r.Boots, r.Ins = nil, nil, nil })
	n := &node{t, c}
	c.Now = 21
	n.tick("without Frags")
	n.is("without Frags", c)
	c = asked(all)
	for i, from := range []int{-1, 3, math.MaxInt} {
		c.Runs[0].Ins[i].Stream.From = from
	}
	n = &node{t, c}
	n.tick("streams of no Frag", starts(c, c.Runs[0])...)
	c = asked(all)
	s := c.Runs[0].Ins[0].Stream
	c.Runs[0].Ins = []api.In{in(s, batches(s, nil)...)}
	n = &node{t, c}
	n.tick("all came", starts(c, c.Runs[0])...) // it is answered with the next Batch alone
	c.Now = 21
	n.is("all came", c)
}

func TestTickLoads(t *testing.T) { // 18.4: settled, and what the others want is sent
	full := [][]int{{1, 2}, {2, 3}, {1, 3}}
	ready, waits, lost := load(35, table("v", ts(0, 9)), full...), load(36, table("w", ts(0, 30)), []int{1}, []int{2, 3}), load(37, table("z", nil), nil, []int{2})
	c := gone(loading(ready, waits, lost), 1) // 1 goes with this tick
	c.Runs = []api.Run{run(c, 31, elsewhere, 1)}
	n := &node{t, c}
	c.Now = 21
	want := slices.Concat(cleans(c, 31), wants(waits, [2]int{2, 0}, [2]int{1, 2}, [2]int{3, 2}), every(lost)[:2], every(lost)[3:])
	n.tick("one waits", want...)
	c.Runs, c.Loads, c.Answers = nil, []api.Load{waits, lost}, []api.Answer{failed(31, api.ErrUnavailable), failed(35, api.OK)}
	c = publishes(c, append(claims(), published(ready, full...))...)
	n.is("one waits", c)
	n.Coord = gone(n.Coord, 2, 3)
	c = n.Coord
	n.tick("all are gone")
	c.Now = 22
	c.Loads, c.Answers = nil, append(c.Answers, failed(36, api.ErrUnavailable), failed(37, api.ErrUnavailable))
	n.is("all are gone", c)
}

func TestTickMakesReady(t *testing.T) { // 18.4: by a lease that ends just now
	x := load(35, table("v", ts(0, 9)), []int{1, 2}, []int{2}, []int{1})
	c := loading(x)
	c.Leases.Seen[3] = 14
	n := &node{t, c}
	n.tick("it is alive still", wants(x, [2]int{3, 1}, [2]int{3, 2})...)
	n.tick("its lease is over")
	c.Now, c.Loads, c.Answers = 22, nil, []api.Answer{failed(35, api.OK)}
	n.is("its lease is over", publishes(c, append(claims(), published(x, x.Acks...))...))
}

func TestTickWithAFuse(t *testing.T) { // 18.4: what runs want is sent; what loads want is not, the Disk being Down
	full := [][]int{{1, 2}, {2, 3}, {1, 3}}
	waits, ready := load(36, table("w", ts(0, 30)), []int{1}), load(35, table("v", ts(0, 9)), full...)
	for fuse := range 3 {
		c := asked(all)
		c.Loads = []api.Load{waits, ready, waits}
		c.Disk.Fuse = fuse
		n := &node{t, c}
		n.tick("the power goes", append(starts(c, c.Runs[0]), acks(c.Runs[0])...)...)
		c.Now = 21
		c.Disk, _ = files.Publish(c.Disk, append(claims(), published(ready, full...)))
		n.is("the power goes", c)
		n.tick("down")
		n.is("down", c)
	}
	c := asked(all)
	c.Loads, c.Disk.Fuse = []api.Load{waits, ready}, 3
	n := &node{t, c}
	n.tick("just enough power", slices.Concat(starts(c, c.Runs[0]), acks(c.Runs[0]), every(waits)[1:])...)
	if n.Disk.Down || n.Disk.Fuse != 0 || len(n.Answers) != 1 {
		t.Error("the disk is", n.Disk)
	}
}

func TestTheLastTick(t *testing.T) { // 18.4: leases at 2^64 - 1, which stays
	c := with(func(c *api.Coord) { c.Now, c.Leases.Seen = most-1, []uint64{0, most - 7, most - 8, most} })
	c.Runs = asked(counted).Runs
	c.Runs[0].Boots[2]++
	n := &node{t, c}
	c.Now = most // the lease of 2 is over, that of 3 begins
	r := run(c, 31, counted, 2)
	if nodes := []int{r.Frags[0].Node, r.Frags[1].Node, r.Frags[2].Node}; !slices.Equal(nodes, []int{1, 3, 1}) {
		t.Fatal("they run on", nodes)
	}
	n.tick("the last tick", starts(c, r)...)
	c.Runs = []api.Run{r}
	n.is("the last tick", c)
	for range 20 { // time stands still, and so do leases
		n.tick("once more", append(starts(c, r), acks(r)...)...)
		n.is("once more", c)
	}
}
