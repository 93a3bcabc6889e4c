package value

import (
	"math"

	"potsherd/api"
)

// The hash is FNV-1a of 64 bits.
const (
	hashFirst uint64 = 14695981039346656037
	hashTimes uint64 = 1099511628211
)

// Hash is v's: of its kind, and of what its kind has.
func Hash(v api.Value) uint64 {
	h := putByte(hashFirst, byte(v.Kind))
	switch v.Kind {
	case api.KindBool:
		return putBool(h, v.B)
	case api.KindInt:
		return putInt(h, v.N)
	case api.KindText:
		return putText(h, v.S)
	}
	return h
}

func putByte(h uint64, b byte) uint64 {
	return (h ^ uint64(b)) * hashTimes
}

func putBool(h uint64, b bool) uint64 {
	if b {
		return putByte(h, 1)
	}
	return putByte(h, 0)
}

func putInt(h uint64, n int64) uint64 {
	rest := uint64(n)
	for range 8 {
		h = putByte(h, byte(rest))
		rest >>= 8
	}
	return h
}

func putText(h uint64, s string) uint64 {
	for i := range len(s) {
		h = putByte(h, s[i])
	}
	return h
}

// Add is a + b, or ErrOver.
func Add(a, b int64) (int64, api.Errno) {
	sum := a + b
	if (b >= 0) != (sum >= a) {
		return 0, api.ErrOver
	}
	return sum, api.OK
}

// Sub is a - b, or ErrOver.
func Sub(a, b int64) (int64, api.Errno) {
	rest := a - b
	if (b >= 0) != (rest <= a) {
		return 0, api.ErrOver
	}
	return rest, api.OK
}

// Mul is a * b, or ErrOver.
func Mul(a, b int64) (int64, api.Errno) {
	if a == 0 || b == 0 {
		return 0, api.OK
	}
	// The quotient of this one pair wraps round as the product did, and would not tell.
	if a == math.MinInt64 && b == -1 {
		return 0, api.ErrOver
	}
	product := a * b
	if product/b != a {
		return 0, api.ErrOver
	}
	return product, api.OK
}
