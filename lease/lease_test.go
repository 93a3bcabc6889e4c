package lease_test

import (
	"math"
	"slices"
	"testing"

	"potsherd/api"
	"potsherd/lease"
)

const most uint64 = math.MaxUint64

func leases(boots, seen []uint64) api.Leases { return api.Leases{Boots: boots, Seen: seen} }

// some are leases of four nodes, of which the third was opened three times and told so at 10.
func some() api.Leases { return leases([]uint64{0, 0, 3, 0}, []uint64{0, 0, 10, 0}) }

func zeros(n int) []uint64 { return make([]uint64, n) }

// alike tells whether two leases are, nil and empty lists being so.
func alike(a, b api.Leases) bool {
	return slices.Equal(a.Boots, b.Boots) && slices.Equal(a.Seen, b.Seen)
}

func isZero(l api.Leases) bool { return len(l.Boots) == 0 && len(l.Seen) == 0 }

func TestNew(t *testing.T) { // 15.1
	for n := 2; n <= 8; n++ {
		l, why := lease.New(n)
		if why != api.OK || !alike(l, leases(zeros(n), zeros(n))) {
			t.Errorf("New(%d) is %v, error %d", n, l, why)
		}
		if why := lease.Check(l); why != api.OK {
			t.Errorf("New(%d) is not right: error %d", n, why)
		}
		for _, now := range []uint64{0, 1, 7, 8, most} {
			alive, why := lease.Alive(l, now)
			want := make([]bool, n)
			want[0] = true
			if why != api.OK || !slices.Equal(alive, want) {
				t.Errorf("of nobody: Alive at %d is %v, error %d", now, alive, why)
			}
		}
	}
	for _, n := range []int{1, 0, -1, 9, 10, 1 << 20, math.MaxInt, math.MinInt} {
		if l, why := lease.New(n); why != api.ErrRange || !isZero(l) {
			t.Errorf("New(%d) is %v, error %d", n, l, why)
		}
	}
}

// wrong are leases that are not right.
func wrong() map[string]api.Leases {
	return map[string]api.Leases{
		"none":                   {},
		"no nodes":               leases([]uint64{}, []uint64{}),
		"one node":               leases(zeros(1), zeros(1)),
		"a node too many":        leases(zeros(9), zeros(9)),
		"far too many":           leases(zeros(900), zeros(900)),
		"a boot more":            leases(zeros(3), zeros(2)),
		"a time more":            leases(zeros(2), zeros(3)),
		"boots alone":            leases(zeros(4), nil),
		"times alone":            leases(nil, zeros(4)),
		"a boot too many":        leases(zeros(9), zeros(8)),
		"a time too many":        leases(zeros(8), zeros(9)),
		"two boots, and one":     leases(zeros(2), zeros(1)),
		"one boot, and two":      leases(zeros(1), zeros(2)),
		"as many of both, but 1": leases([]uint64{5}, []uint64{5}),
	}
}

// right are leases that are.
func right() map[string]api.Leases {
	return map[string]api.Leases{
		"two nodes":            leases(zeros(2), zeros(2)),
		"as many as may be":    leases(zeros(8), zeros(8)),
		"some":                 some(),
		"node 0 beat, by hand": leases([]uint64{7, 7}, []uint64{7, 7}),
		"greatest numbers":     leases([]uint64{most, most}, []uint64{most, most}),
		"a time without boot":  leases([]uint64{0, 0}, []uint64{9, 9}),
	}
}

func TestCheck(t *testing.T) { // 15.1
	for name, l := range right() {
		if why := lease.Check(l); why != api.OK {
			t.Errorf("%s: error %d", name, why)
		}
	}
	for name, l := range wrong() {
		if why := lease.Check(l); why != api.ErrState {
			t.Errorf("%s: error %d", name, why)
		}
	}
}

func TestWrongLeases(t *testing.T) { // 15.1, P2, P3: ErrState is told first
	for name, l := range wrong() {
		for _, node := range []int{-1, 0, 1, 2, 8, 9} {
			for _, boot := range []uint64{0, 1, 4} {
				if got, isNew, why := lease.Beat(l, node, boot, 5); why != api.ErrState || isNew || !isZero(got) {
					t.Errorf("%s: Beat is %v, %t, error %d", name, got, isNew, why)
				}
			}
		}
		if got, why := lease.Alive(l, 5); why != api.ErrState || len(got) != 0 {
			t.Errorf("%s: Alive is %v, error %d", name, got, why)
		}
	}
}

func beats(t *testing.T, name string, l api.Leases, node int, boot, now uint64, isNew bool) {
	t.Helper()
	want := leases(slices.Clone(l.Boots), slices.Clone(l.Seen))
	want.Boots[node], want.Seen[node] = boot, now
	if got, fresh, why := lease.Beat(l, node, boot, now); why != api.OK || fresh != isNew || !alike(got, want) {
		t.Errorf("%s: Beat is %v, %t, error %d; not %v, %t", name, got, fresh, why, want, isNew)
	}
}

func TestBeat(t *testing.T) { // 15.1
	beats(t, "the first", some(), 1, 1, 0, true)
	beats(t, "the first, of the last node", some(), 3, 9, 4, true)
	beats(t, "the first, as late as may be", some(), 3, most, most, true)
	beats(t, "again", some(), 2, 3, 11, false)
	beats(t, "again, far later", some(), 2, 3, most, false)
	beats(t, "again, at once", some(), 2, 3, 10, false)
	beats(t, "opened anew", some(), 2, 4, 11, true)
	beats(t, "opened anew, at once", some(), 2, 4, 10, true)
	beats(t, "opened anew, and a time before", some(), 2, 4, 9, true)
	beats(t, "opened anew, and the first time", some(), 2, most, 0, true)
	beats(t, "of the only worker", leases(zeros(2), zeros(2)), 1, 1, 1, true)
	beats(t, "of the last of all nodes", leases(zeros(8), zeros(8)), 7, 1, 1, true)
	beats(t, "a time without a boot", leases([]uint64{0, 0}, []uint64{0, 9}), 1, 1, 3, true)
}

func refuses(t *testing.T, name string, l api.Leases, node int, boot, now uint64, want api.Errno) {
	t.Helper()
	if got, isNew, why := lease.Beat(l, node, boot, now); why != want || isNew || !alike(got, l) {
		t.Errorf("%s: Beat is %v, %t, error %d; not error %d", name, got, isNew, why, want)
	}
}

func TestBeatErrors(t *testing.T) { // 15.1, P3: leases are told beside both errors
	for _, node := range []int{0, -1, 4, 5, 8, math.MaxInt, math.MinInt} {
		for _, boot := range []uint64{0, 1, 3, most} {
			refuses(t, "no worker", some(), node, boot, 20, api.ErrRange)
		}
	}
	for node := range 4 {
		refuses(t, "no boot", some(), node, 0, 20, api.ErrRange)
	}
	refuses(t, "no boot, and a time before", some(), 2, 0, 9, api.ErrRange)
	refuses(t, "past the last of two", leases(zeros(2), zeros(2)), 2, 1, 1, api.ErrRange)
	refuses(t, "past the last of all", leases(zeros(8), zeros(8)), 8, 1, 1, api.ErrRange)
	refuses(t, "a smaller boot", some(), 2, 2, 20, api.ErrStale)
	refuses(t, "a smaller boot, at once", some(), 2, 2, 10, api.ErrStale)
	refuses(t, "the first boot", some(), 2, 1, most, api.ErrStale)
	refuses(t, "a smaller boot, and a time before", some(), 2, 2, 9, api.ErrStale)
	refuses(t, "a time before", some(), 2, 3, 9, api.ErrStale)
	refuses(t, "the first time", some(), 2, 3, 0, api.ErrStale)
	refuses(t, "one below the greatest", leases([]uint64{0, most}, []uint64{0, 0}), 1, most-1, 5, api.ErrStale)
}

func TestAlive(t *testing.T) { // 15.1
	for _, seen := range []uint64{0, 1, 10, 1 << 40, most - 8, most - 7, most - 1, most} {
		for _, ticks := range []uint64{0, 1, 6, 7, 8, 9, 100} {
			now := seen + ticks
			if now < seen {
				continue
			}
			l := leases([]uint64{0, 0, 3, 0}, []uint64{0, 0, seen, seen})
			alive, why := lease.Alive(l, now)
			if want := []bool{true, false, ticks < 8, false}; why != api.OK || !slices.Equal(alive, want) {
				t.Errorf("seen at %d: Alive at %d is %v, error %d", seen, now, alive, why)
			}
		}
	}
	for _, now := range []uint64{0, 1, 8, 9} {
		if alive, why := lease.Alive(some(), now); why != api.OK || alive[2] {
			t.Errorf("ahead of its time: Alive at %d is %v, error %d", now, alive, why)
		}
	}
	if alive, _ := lease.Alive(leases([]uint64{0, 1}, []uint64{0, most}), 3); alive[1] {
		t.Error("a time far ahead: alive")
	}
	if alive, _ := lease.Alive(leases([]uint64{0, 1, most}, []uint64{9, 9, 9}), 9); !slices.Equal(alive, []bool{true, true, true}) {
		t.Error("all were seen just now:", alive)
	}
	if alive, _ := lease.Alive(leases([]uint64{5, 1}, []uint64{50, 9}), 9); !alive[0] {
		t.Error("node 0 is not alive")
	}
}

func TestExample(t *testing.T) { // 15.3, and the chapter's example
	l, _ := lease.New(2)
	l, _, _ = lease.Beat(l, 1, 1, 5)
	for now := range uint64(40) {
		if alive, why := lease.Alive(l, now); why != api.OK || alive[1] != (now >= 5 && now <= 12) {
			t.Errorf("Beat at 5: Alive at %d is %v, error %d", now, alive, why)
		}
	}
}
