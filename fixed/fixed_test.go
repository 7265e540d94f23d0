package fixed

import (
	"math"
	"math/big"
	"testing"

	"arras/api"
)

const top = api.MaxCoord

// coords are coordinates about the edges and some in between.
func coords() []int {
	out := []int{0}
	for _, n := range []int{1, 2, 3, 63, 64, 65, 96, 1000, 1<<20 - 1, 1 << 20, 1<<32 - 1, 1 << 32, 1<<32 + 1, 471219269046, top / 2, top/2 + 1, top - 64, top - 1, top} {
		out = append(out, n, -n)
	}
	return out
}

// outside are numbers that are no coordinates.
func outside() []int {
	return []int{top + 1, -top - 1, 2 * top, -2 * top, math.MaxInt, math.MinInt, math.MaxInt - 1, math.MinInt + 1}
}

func within(n *big.Int) int {
	limit := big.NewInt(top)
	if n.Cmp(limit) > 0 {
		return top
	}
	if n.Cmp(new(big.Int).Neg(limit)) < 0 {
		return -top
	}
	return int(n.Int64())
}

// exact is a * b / c by another way; Div of a divisor above 0 rounds down.
func exact(a, b, c int) int {
	p := new(big.Int).Mul(big.NewInt(int64(a)), big.NewInt(int64(b)))
	return within(p.Div(p, big.NewInt(int64(c))))
}

func wantCoord(t *testing.T, what string, got int, err api.Errno, want int) {
	t.Helper()
	if got != want || err != api.OK {
		t.Errorf("%s: %d, error %d; want %d", what, got, err, want)
	}
}

func wantForm(t *testing.T, what string, got int, err api.Errno) {
	t.Helper()
	if got != 0 || err != api.ErrForm {
		t.Errorf("%s: %d, error %d; want 0, ErrForm", what, got, err)
	}
}

// P1.1

func TestCheck(t *testing.T) {
	for _, a := range coords() {
		if Check(a) != api.OK {
			t.Errorf("Check(%d): %d", a, Check(a))
		}
	}
	for _, a := range outside() {
		if Check(a) != api.ErrForm {
			t.Errorf("Check(%d): %d", a, Check(a))
		}
	}
}

func TestSat(t *testing.T) {
	for _, n := range append(coords(), outside()...) {
		if want := within(big.NewInt(int64(n))); Sat(n) != want {
			t.Errorf("Sat(%d): %d, want %d", n, Sat(n), want)
		}
	}
}

func TestAddSub(t *testing.T) {
	for _, a := range coords() {
		for _, b := range coords() {
			x, y := big.NewInt(int64(a)), big.NewInt(int64(b))
			sum, err := Add(a, b)
			wantCoord(t, "Add", sum, err, within(new(big.Int).Add(x, y)))
			diff, err := Sub(a, b)
			wantCoord(t, "Sub", diff, err, within(new(big.Int).Sub(x, y)))
		}
	}
}

func TestAddSubEdges(t *testing.T) {
	for _, c := range []struct{ a, b, sum, diff int }{
		{96, 32, 128, 64},
		{top, top, top, 0},
		{top, -top, 0, top},
		{-top, top, 0, -top},
		{-top, -top, -top, 0},
		{top - 1, 1, top, top - 2},
		{1 - top, 1, 2 - top, -top},
	} {
		sum, err := Add(c.a, c.b)
		wantCoord(t, "Add", sum, err, c.sum)
		diff, err := Sub(c.a, c.b)
		wantCoord(t, "Sub", diff, err, c.diff)
	}
}

func TestAddSubWrong(t *testing.T) {
	for _, n := range outside() {
		for _, good := range []int{0, 1, -1, top, -top, n} {
			for _, f := range []func(int, int) (int, api.Errno){Add, Sub} {
				got, err := f(n, good)
				wantForm(t, "first", got, err)
				got, err = f(good, n)
				wantForm(t, "second", got, err)
			}
		}
	}
}

// P1.2

func TestMulDivExact(t *testing.T) {
	for _, a := range coords() {
		for _, b := range coords() {
			for _, c := range coords() {
				if c <= 0 {
					continue
				}
				got, err := MulDiv(a, b, c)
				if want := exact(a, b, c); got != want || err != api.OK {
					t.Fatalf("MulDiv(%d, %d, %d): %d, error %d; want %d", a, b, c, got, err, want)
				}
			}
		}
	}
}

// TestMulDivSpread tries numbers all over the range, of a fixed sequence.
func TestMulDivSpread(t *testing.T) {
	seed := uint64(1)
	next := func() int {
		seed = seed*6364136223846793005 + 1442695040888963407
		return int(seed>>22)%(2*top+1) - top
	}
	for range 20000 {
		a, b, c := next(), next(), next()
		if c < 0 {
			c = -c
		}
		c = max(c, 1)
		got, err := MulDiv(a, b, c)
		if want := exact(a, b, c); got != want || err != api.OK {
			t.Fatalf("MulDiv(%d, %d, %d): %d, error %d; want %d", a, b, c, got, err, want)
		}
	}
}

func TestMulDivEdges(t *testing.T) {
	for _, c := range [][4]int{
		{-1, 1, 2, -1},
		{1, -1, 2, -1},
		{-1, -1, 2, 0},
		{1, 1, 2, 0},
		{-4, 1, 2, -2},
		{-5, 1, 2, -3},
		{0, -top, 7, 0},
		{-top, 0, 7, 0},
		{1, -1, top, -1},
		{top, top, 1, top},
		{top, -top, 1, -top},
		{-top, -top, 1, top},
		{top, top, top, top},
		{-top, top, top, -top},
		{-top, top, top - 1, -top},
		{1 - top, top, top, 1 - top},
		{1 - top, top - 1, top, 1 - top},
		{top - 1, top - 1, top, top - 2},
	} {
		got, err := MulDiv(c[0], c[1], c[2])
		wantCoord(t, "MulDiv", got, err, c[3])
	}
}

func TestMulDivWrong(t *testing.T) {
	for _, n := range outside() {
		got, err := MulDiv(n, 1, 1)
		wantForm(t, "a", got, err)
		got, err = MulDiv(1, n, 1)
		wantForm(t, "b", got, err)
		got, err = MulDiv(1, 1, n)
		wantForm(t, "c", got, err)
		got, err = MulDiv(n, 0, 1)
		wantForm(t, "a, of nothing", got, err)
	}
	for _, c := range []int{0, -1, -64, -top} {
		got, err := MulDiv(64, 64, c)
		wantForm(t, "c not above 0", got, err)
	}
}

func TestMul(t *testing.T) {
	for _, c := range [][3]int{{96, 96, 144}, {1, 1, 0}, {-1, 1, -1}, {-1, -1, 0}, {64, top, top}, {-64, top, -top}, {65, top, top}, {65, -top, -top}, {63, top, top - top/64}} {
		got, err := Mul(c[0], c[1])
		wantCoord(t, "Mul", got, err, c[2])
	}
	for _, a := range coords() {
		for _, b := range coords() {
			got, err := Mul(a, b)
			wantCoord(t, "Mul", got, err, exact(a, b, api.Unit))
		}
	}
	for _, n := range outside() {
		got, err := Mul(n, 1)
		wantForm(t, "a", got, err)
		got, err = Mul(1, n)
		wantForm(t, "b", got, err)
	}
}

func TestClamp(t *testing.T) {
	for _, c := range []struct{ x, low, high, want int }{
		{5, 1, 9, 5},
		{0, 1, 9, 1},
		{10, 1, 9, 9},
		{1, 1, 9, 1},
		{9, 1, 9, 9},
		{5, 9, 1, 9}, // low is the stronger one
		{10, 1, -1, 10},
		{0, 1, -1, 1},
		{top, -top, -1, top},
		{-top, -top, -1, -top},
		{0, -9, -1, 0}, // no upper limit, not one of -1
		{0, -9, -2, -2},
		{0, -9, 0, 0},
		{5, -9, 0, 0},
		{top, -top, top, top},
		{top, -top, -top, -top},
		{-top, top, -top, top},
	} {
		got, err := Clamp(c.x, c.low, c.high)
		if got != c.want || err != api.OK {
			t.Errorf("Clamp(%d, %d, %d): %d, error %d; want %d", c.x, c.low, c.high, got, err, c.want)
		}
	}
}

func TestClampWrong(t *testing.T) {
	for _, n := range outside() {
		got, err := Clamp(n, 1, 9)
		wantForm(t, "x", got, err)
		got, err = Clamp(5, n, 9)
		wantForm(t, "low", got, err)
		got, err = Clamp(5, 1, n)
		wantForm(t, "high", got, err)
		got, err = Clamp(n, 1, -1)
		wantForm(t, "x without a limit", got, err)
		got, err = Clamp(5, n, -1)
		wantForm(t, "low without a limit", got, err)
	}
}

// P1.3

func TestSubUndoesAdd(t *testing.T) {
	tried := 0
	for _, a := range coords() {
		for _, b := range coords() {
			if a+b != Sat(a+b) {
				continue
			}
			tried++
			sum, err := Add(a, b)
			wantCoord(t, "Add", sum, err, a+b)
			back, err := Sub(sum, b)
			wantCoord(t, "Sub of Add", back, err, a)
		}
	}
	if tried == 0 {
		t.Error("nothing was tried")
	}
}

func TestMulDivBySame(t *testing.T) {
	for _, a := range coords() {
		for _, c := range coords() {
			if c <= 0 {
				continue
			}
			got, err := MulDiv(a, c, c)
			wantCoord(t, "MulDiv", got, err, a)
		}
	}
}
