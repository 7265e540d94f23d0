// Package fixed: numbers with six bits behind the point: see ../../shared/doc/01-fixed.md.
package fixed

import "arras/api"

// noLimit as Clamp's high stands for no upper limit.
const noLimit = -1

// Check returns ErrForm if a is not a coordinate.
func Check(a int) api.Errno {
	if a < -api.MaxCoord || a > api.MaxCoord {
		return api.ErrForm
	}
	return api.OK
}

// Sat returns the coordinate nearest to n, which may be any number.
func Sat(n int) int {
	return max(-api.MaxCoord, min(n, api.MaxCoord))
}

// Add returns the sum of two coordinates, saturated.
func Add(a int, b int) (int, api.Errno) {
	if !areCoords(a, b) {
		return 0, api.ErrForm
	}
	return Sat(a + b), api.OK
}

// Sub returns the difference of two coordinates, saturated.
func Sub(a int, b int) (int, api.Errno) {
	if !areCoords(a, b) {
		return 0, api.ErrForm
	}
	return Sat(a - b), api.OK
}

// MulDiv returns a * b / c, rounded down and saturated; c is above 0.
func MulDiv(a int, b int, c int) (int, api.Errno) {
	if !areCoords(a, b, c) || c <= 0 {
		return 0, api.ErrForm
	}
	high, low := product(magnitude(a), magnitude(b))
	size, rest := quotient(high, low, uint64(c))
	if (a < 0) == (b < 0) {
		return int(size), api.OK
	}
	// Cutting the size off rounds a negative quotient up: a rest brings it down by one.
	if rest > 0 {
		size++
	}
	return -int(size), api.OK
}

// Mul returns the product of two coordinates, in units of a pixel.
func Mul(a int, b int) (int, api.Errno) {
	return MulDiv(a, b, api.Unit)
}

// Clamp brings x to at most high (-1: no limit), then to at least low.
func Clamp(x int, low int, high int) (int, api.Errno) {
	if !areCoords(x, low, high) {
		return 0, api.ErrForm
	}
	if high != noLimit {
		x = min(x, high)
	}
	return max(low, x), api.OK
}

func areCoords(numbers ...int) bool {
	for _, n := range numbers {
		if Check(n) != api.OK {
			return false
		}
	}
	return true
}

func magnitude(coord int) uint64 {
	return uint64(max(coord, -coord))
}
