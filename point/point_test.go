package point

import (
	"math"
	"testing"

	"arras/api"
)

const top = api.MaxCoord

// at is the point of two coordinates, without the package's own way to it.
func at(x, y int) complex128 {
	return complex(float64(x), float64(y))
}

// within brings a number that may be beyond them into the coordinates.
func within(n int) int {
	if n > top {
		return top
	}
	if n < -top {
		return -top
	}
	return n
}

// coords are coordinates about the edges and some in between.
func coords() []int {
	return []int{0, 1, -1, 2, -2, 63, -64, 1000, -1000, 1<<32 + 1, -1<<32 - 1, top / 2, -top / 2, top/2 + 1, -top/2 - 1, top - 1, 1 - top, top, -top}
}

// wrongParts are numbers that no part of a point is.
func wrongParts() []float64 {
	return []float64{
		math.NaN(), math.Inf(1), math.Inf(-1),
		0.5, -0.5, 1.5, -1.5, 1e-300, math.SmallestNonzeroFloat64, -math.SmallestNonzeroFloat64, math.Nextafter(1, 0), math.Nextafter(top, 0), math.Nextafter(-top, 0),
		top + 1, -top - 1, math.Nextafter(top, 2*top), math.Nextafter(-top, -2*top), 2 * top, -2 * top, 1 << 62, -1 << 62, 1 << 63, -1 << 63, 1 << 64, -1 << 64, 1e300, -1e300, math.MaxFloat64, -math.MaxFloat64,
	}
}

// wrongPoints have a wrong part beside a good one, or two wrong parts.
func wrongPoints() []complex128 {
	var out []complex128
	for _, part := range wrongParts() {
		for _, good := range []float64{0, 1, -top, top} {
			out = append(out, complex(part, good), complex(good, part))
		}
		out = append(out, complex(part, part))
	}
	return out
}

func wrongSizes() []complex128 {
	return append(wrongPoints(), at(-1, 0), at(0, -1), at(-1, -1), at(-1, 1), at(1, -1), at(-top, top), at(top, -top), at(-top, -top))
}

// spread returns a function that draws from 0 to below a bound, the same numbers in every run.
func spread(seed uint64) func(int) int {
	return func(bound int) int {
		seed = seed*6364136223846793005 + 1442695040888963407
		return int(seed>>21) % bound
	}
}

// same tells 0 and -0 apart.
func same(p, q complex128) bool {
	return math.Float64bits(real(p)) == math.Float64bits(real(q)) && math.Float64bits(imag(p)) == math.Float64bits(imag(q))
}

func wantPoint(t *testing.T, what string, got complex128, err api.Errno, want complex128) {
	t.Helper()
	if !same(got, want) || err != api.OK {
		t.Errorf("%s: %v, error %d; want %v", what, got, err, want)
	}
}

func wantForm(t *testing.T, what string, got complex128, err api.Errno) {
	t.Helper()
	if !same(got, 0) || err != api.ErrForm {
		t.Errorf("%s: %v, error %d; want 0, ErrForm", what, got, err)
	}
}

// P3.1

func TestOfAndParts(t *testing.T) {
	for _, x := range coords() {
		for _, y := range coords() {
			p, err := Of(x, y)
			wantPoint(t, "Of", p, err, at(x, y))
			gotX, gotY, err := Parts(at(x, y))
			if gotX != x || gotY != y || err != api.OK {
				t.Errorf("Parts(%v): %d, %d, error %d", at(x, y), gotX, gotY, err)
			}
		}
	}
}

func TestOfRefuses(t *testing.T) {
	for _, wrong := range []int{top + 1, -top - 1, 2 * top, -2 * top, 1 << 53, 1<<53 + 1, math.MaxInt, math.MinInt} {
		for _, other := range []int{0, 5, top, -top, wrong} {
			p, err := Of(wrong, other)
			wantForm(t, "Of's first", p, err)
			p, err = Of(other, wrong)
			wantForm(t, "Of's second", p, err)
		}
	}
}

func TestPartsRefuses(t *testing.T) {
	for _, p := range wrongPoints() {
		if x, y, err := Parts(p); x != 0 || y != 0 || err != api.ErrForm {
			t.Errorf("Parts(%v): %d, %d, error %d; want 0, 0, ErrForm", p, x, y, err)
		}
	}
}

func TestAddSubTurn(t *testing.T) {
	for _, c := range []struct{ p, q, sum, diff, turned complex128 }{
		{at(1, 2), at(30, 40), at(31, 42), at(-29, -38), at(2, 1)},
		{at(-1, 2), at(1, -2), at(0, 0), at(-2, 4), at(2, -1)},
		{at(5, -7), at(5, -7), at(10, -14), at(0, 0), at(-7, 5)},
		{at(top, 3), at(1, 4), at(top, 7), at(top-1, -1), at(3, top)},
		{at(3, top), at(4, 1), at(7, top), at(-1, top-1), at(top, 3)},
		{at(-top, top), at(1, -1), at(1-top, top-1), at(-top, top), at(top, -top)},
		{at(top, -top), at(top, -top), at(top, -top), at(0, 0), at(-top, top)},
		{at(top, -top), at(-top, top), at(0, 0), at(top, -top), at(-top, top)},
		{at(-top, -top), at(-top, top), at(-top, 0), at(0, -top), at(-top, -top)},
	} {
		sum, err := Add(c.p, c.q)
		wantPoint(t, "Add", sum, err, c.sum)
		diff, err := Sub(c.p, c.q)
		wantPoint(t, "Sub", diff, err, c.diff)
		turned, err := Turn(c.p)
		wantPoint(t, "Turn", turned, err, c.turned)
	}
}

func TestAddSubTurnSpread(t *testing.T) {
	next := spread(3)
	for range 20000 {
		span := []int{3, 2000, 2*top + 1}[next(3)]
		x, y, u, v := next(span)-span/2, next(span)-span/2, next(span)-span/2, next(span)-span/2
		sum, err := Add(at(x, y), at(u, v))
		wantPoint(t, "Add", sum, err, at(within(x+u), within(y+v)))
		diff, err := Sub(at(x, y), at(u, v))
		wantPoint(t, "Sub", diff, err, at(within(x-u), within(y-v)))
		turned, err := Turn(at(x, y))
		wantPoint(t, "Turn", turned, err, at(y, x))
	}
}

// negated are the points whose parts are 0, -0 or another, each beside what it counts as.
func negated() [][2]complex128 {
	minus := math.Copysign(0, -1)
	return [][2]complex128{
		{complex(minus, minus), 0}, {complex(minus, 0), 0}, {complex(0, minus), 0},
		{complex(minus, 3), at(0, 3)}, {complex(3, minus), at(3, 0)}, {complex(minus, -top), at(0, -top)}, {complex(-top, minus), at(-top, 0)},
		{0, 0}, {at(-4, 9), at(-4, 9)},
	}
}

func TestMinusZeroCountsAsZero(t *testing.T) {
	for _, c := range negated() {
		p, clean := c[0], c[1]
		x, y, err := Parts(p)
		wantPoint(t, "Parts", at(x, y), err, clean)
		turned, err := Turn(p)
		wantPoint(t, "Turn", turned, err, complex(imag(clean), real(clean)))
		for _, d := range negated() {
			q, other := d[0], d[1]
			sum, err := Add(p, q)
			wantPoint(t, "Add", sum, err, at(within(int(real(clean)+real(other))), within(int(imag(clean)+imag(other)))))
			diff, err := Sub(p, q)
			wantPoint(t, "Sub", diff, err, at(within(int(real(clean)-real(other))), within(int(imag(clean)-imag(other)))))
		}
	}
}

func TestAddSubTurnRefuse(t *testing.T) {
	for _, p := range wrongPoints() {
		turned, err := Turn(p)
		wantForm(t, "Turn", turned, err)
		for _, f := range []func(complex128, complex128) (complex128, api.Errno){Add, Sub} {
			for _, q := range []complex128{0, at(1, 2), at(top, -top), p} {
				got, err := f(p, q)
				wantForm(t, "the first", got, err)
				got, err = f(q, p)
				wantForm(t, "the second", got, err)
			}
		}
	}
}
