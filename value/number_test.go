package value_test

import (
	"hash/fnv"
	"math"
	"math/big"
	"testing"

	"potsherd/api"
	"potsherd/value"
)

// edges are numbers at both ends of 64 bits, about nought, and where products are just too great.
func edges() []int64 {
	var l []int64
	for _, n := range []int64{math.MinInt64, -1 << 62, -1 << 32, -1 << 31, -3037000500, 0, 3037000500, 1 << 31, 1 << 32, 1 << 62, math.MaxInt64 / 3, math.MaxInt64} {
		for d := int64(-3); d <= 3; d++ {
			l = append(l, n+d) // past an end it is one near the other
		}
	}
	return l
}

func TestSums(t *testing.T) { // 1.2, P2
	for name, x := range map[string]struct {
		own  func(a, b int64) (int64, api.Errno)
		real func(z, a, b *big.Int) *big.Int
	}{"Add": {value.Add, (*big.Int).Add}, "Sub": {value.Sub, (*big.Int).Sub}, "Mul": {value.Mul, (*big.Int).Mul}} {
		for _, a := range edges() {
			for _, b := range edges() {
				z := x.real(new(big.Int), big.NewInt(a), big.NewInt(b))
				n, why := x.own(a, b)
				if z.IsInt64() && (n != z.Int64() || why != api.OK) || !z.IsInt64() && (n != 0 || why != api.ErrOver) {
					t.Fatalf("%s(%d, %d) = %d, error %d; it is %s", name, a, b, n, why, z)
				}
			}
		}
	}
}

func TestAddedIsTakenAway(t *testing.T) { // 1.6
	for _, a := range edges() {
		for _, b := range edges() {
			if sum, why := value.Add(a, b); why == api.OK {
				if n, why := value.Sub(sum, b); n != a || why != api.OK {
					t.Fatalf("%d + %d - %d = %d, error %d", a, b, b, n, why)
				}
			}
			if rest, why := value.Sub(a, b); why == api.OK {
				if n, why := value.Add(rest, b); n != a || why != api.OK {
					t.Fatalf("%d - %d + %d = %d, error %d", a, b, b, n, why)
				}
			}
		}
	}
}

// hashed is the library's hash of some bytes, which is the same one.
func hashed(l ...byte) uint64 {
	h := fnv.New64a()
	h.Write(l)
	return h.Sum64()
}

func TestHash(t *testing.T) { // 1.2
	if h := value.Hash(api.Value{}); h != 12638153115695167455 {
		t.Error("Hash of null:", h)
	}
	for i, x := range []struct {
		v    api.Value
		want uint64
	}{
		{api.Value{}, hashed(0)},
		{boolean(false), hashed(1, 0)},
		{boolean(true), hashed(1, 1)},
		{whole(0), hashed(2, 0, 0, 0, 0, 0, 0, 0, 0)},
		{whole(1), hashed(2, 1, 0, 0, 0, 0, 0, 0, 0)},
		{whole(-2), hashed(2, 254, 255, 255, 255, 255, 255, 255, 255)},
		{whole(0x0102030405060708), hashed(2, 8, 7, 6, 5, 4, 3, 2, 1)},
		{whole(math.MinInt64), hashed(2, 0, 0, 0, 0, 0, 0, 0, 128)},
		{whole(math.MaxInt64), hashed(2, 255, 255, 255, 255, 255, 255, 255, 127)},
		{text(""), hashed(3)},
		{text("a\x00"), hashed(3, 'a', 0)},
		{text("é"), hashed(3, 0xc3, 0xa9)},
		{text("\xff"), hashed(3, 0xff)}, // its bytes, not its runes
		{api.Value{N: 7, B: true, S: "a"}, hashed(0)},
		{api.Value{Kind: api.KindInt, S: "a"}, hashed(2, 0, 0, 0, 0, 0, 0, 0, 0)},
		{api.Value{Kind: api.KindCount, N: 7}, hashed(4)},
		{api.Value{Kind: 255, S: "a"}, hashed(255)},
	} {
		if h := value.Hash(x.v); h != x.want {
			t.Errorf("Hash, %d: %d, not %d", i, h, x.want)
		}
	}
}
