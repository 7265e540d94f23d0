package fixed

import "arras/api"

const (
	wordBits = 64
	halfBits = 32
	halfMask = 1<<halfBits - 1
)

// product multiplies by halves of 32 bits, since the product of two coordinates has more than 64.
func product(a, b uint64) (high, low uint64) {
	aHigh, aLow := a>>halfBits, a&halfMask
	bHigh, bLow := b>>halfBits, b&halfMask
	lows := aLow * bLow
	cross := aHigh*bLow + lows>>halfBits
	other := aLow*bHigh + cross&halfMask
	high = aHigh*bHigh + cross>>halfBits + other>>halfBits
	low = other<<halfBits | lows&halfMask
	return high, low
}

// quotient divides bit by bit. A quotient of MaxCoord or more is answered as MaxCoord without a rest, so that rounding can't carry it beyond.
func quotient(high, low, divisor uint64) (size, rest uint64) {
	if high >= divisor {
		return api.MaxCoord, 0
	}
	rest = high
	bit := wordBits
nextBit:
	bit--
	// The rest is below the divisor, a coordinate: doubled, it still fits into a word.
	rest = rest<<1 | low>>bit&1
	size <<= 1
	if rest >= divisor {
		rest -= divisor
		size |= 1
	}
	if bit > 0 {
		goto nextBit
	}
	if size >= api.MaxCoord {
		return api.MaxCoord, 0
	}
	return size, rest
}
