package coord

import (
	"testing"

	"potsherd/api"
)

func TestStopped(t *testing.T) { // 'Ways': an error's number is caught, and nothing else
	for _, why := range []api.Errno{api.OK, api.ErrNil, api.ErrUnavailable} {
		if got := stopped(func() { need(why) }); got != why {
			t.Errorf("stopped with %d: error %d", why, got)
		}
		n := 0
		if got := stopped(func() { n = must(7, why) }); got != why || (n == 7) != (why == api.OK) {
			t.Errorf("must with %d: %d, error %d", why, n, got)
		}
	}
	for _, other := range []any{"a text", 7, error(nil)} {
		goesOn := func() (goesOn bool) {
			defer func() { goesOn = recover() != nil }()
			stopped(func() { panic(other) })
			return false
		}()
		if !goesOn {
			t.Errorf("a panic with %v is caught", other)
		}
	}
}
