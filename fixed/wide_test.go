package fixed

import (
	"math"
	"math/bits"
	"testing"
)

func TestProductOfWords(t *testing.T) {
	words := []uint64{0, 1, 2, halfMask, 1 << halfBits, 1<<halfBits + 1, 1 << 63, math.MaxUint64 - 1, math.MaxUint64, 0x123456789abcdef0}
	for _, a := range words {
		for _, b := range words {
			high, low := product(a, b)
			wantHigh, wantLow := bits.Mul64(a, b)
			if high != wantHigh || low != wantLow {
				t.Errorf("%x * %x: %x, %x", a, b, high, low)
			}
		}
	}
}
