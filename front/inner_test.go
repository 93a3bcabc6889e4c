package front

import (
	"math"
	"strings"
	"testing"

	"potsherd/api"
	"potsherd/world"
)

func TestNames(t *testing.T) { // 20: names of errors
	want := strings.Fields("ok nil range many long type state unknown full utf depth wire down syntax name twice over stale unavailable")
	for n, name := range want {
		if got := nameOf(api.Errno(n)); got != name {
			t.Errorf("error %d is called %s; not %s", n, got, name)
		}
	}
	if nameOf(api.ErrUnavailable) != "unavailable" || nameOf(api.ErrUtf) != "utf" || nameOf(api.OK) != "ok" {
		t.Error("names are mixed up")
	}
	for _, why := range []api.Errno{-1, 19, 20, math.MaxInt, math.MinInt} {
		if got := nameOf(why); got != "?" {
			t.Errorf("error %d is called %s", why, got)
		}
	}
}

func TestAnswerLines(t *testing.T) { // 20: what no run of a script tells, but an answer may have
	for want, a := range map[string]api.Told{
		"answer 18446744073709551615 18446744073709551615 ?": {Boot: math.MaxUint64, Answer: api.Answer{N: math.MaxUint64, Why: 19}},
		"answer 0 0 ok":                      {},
		"answer 1 2 over":                    {Boot: 1, Answer: api.Answer{N: 2, Why: api.ErrOver, Names: []string{"a"}, Rows: []api.Row{{{}}}}},
		"answer 1 2 ok (\"a\")":              {Boot: 1, Answer: api.Answer{N: 2, Names: []string{"a"}}},
		"answer 1 3 ok":                      {Boot: 1, Answer: api.Answer{N: 3, Rows: []api.Row{{{}}}}},
		"answer 1 4 ok (? \"\") () (null ?)": {Boot: 1, Answer: api.Answer{N: 4, Names: []string{"\xff", ""}, Rows: []api.Row{{}, {{}, {Kind: 9}}}}},
	} {
		if got := strings.Join(answerWords(a), " "); got != want {
			t.Errorf("%s; not %s", got, want)
		}
	}
}

func TestKeep(t *testing.T) { // 20: crash N N, fuse N N: the second number is Keep, which no line tells
	for keep, want := range []string{"ab", "abc", "abcd"} {
		w, _ := world.New(api.Layout{Nodes: 3, Shards: 1, Replicas: 1})
		w.Workers[0].Disk.Files = []api.DiskFile{{Name: "a", Data: "abcdef", Synced: 2}}
		r := &run{world: w}
		r.follow(api.Order{Kind: api.OrderFuse, N: 2, Keep: keep})
		r.follow(api.Order{Kind: api.OrderCrash, N: 1, Keep: keep})
		if got := r.world.Workers[0].Disk.Files[0].Data; got != want || r.world.Workers[1].Disk.Fuse != keep || r.lines.String() != "ok\nok\n" {
			t.Errorf("Keep %d: %q is left, the fuse is %d, told is %q", keep, got, r.world.Workers[1].Disk.Fuse, r.lines.String())
		}
	}
}
