package coord

import "potsherd/api"

// stopped does what may stop by a panic with an error's number, and tells that; OK, if it did not. A panic with anything else goes on.
func stopped(do func()) (why api.Errno) {
	defer func() {
		if caught := recover(); caught != nil {
			why = caught.(api.Errno)
		}
	}()
	do()
	return api.OK
}

// need stops with why, unless that is OK.
func need(why api.Errno) {
	if why != api.OK {
		panic(why)
	}
}

// must is what was answered, if it was without an error; else it stops with that.
func must[T any](answered T, why api.Errno) T {
	need(why)
	return answered
}
