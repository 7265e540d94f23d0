package share

import (
	"math"
	"math/big"
	"slices"
	"testing"

	"arras/api"
)

const (
	top   = api.MaxCoord
	heavy = api.MaxWeight
)

// byHand divides by another way: it looks for the largest remainder anew for every unit.
func byHand(total int, weights []int) []int {
	all := new(big.Int)
	for _, w := range weights {
		all.Add(all, big.NewInt(int64(w)))
	}
	shares := make([]int, len(weights))
	rests := make([]*big.Int, len(weights))
	left := total
	for i, w := range weights {
		part := new(big.Int).Mul(big.NewInt(int64(total)), big.NewInt(int64(w)))
		rests[i] = new(big.Int)
		part.DivMod(part, all, rests[i])
		shares[i] = int(part.Int64())
		left -= shares[i]
	}
	for range left {
		best := 0
		for i := range rests {
			if rests[i].Cmp(rests[best]) > 0 {
				best = i
			}
		}
		shares[best]++
		rests[best] = big.NewInt(-1)
	}
	return shares
}

type sample struct {
	total   int
	weights []int
}

// samples are the edges and, from a fixed seed, many in between.
func samples() []sample {
	var out []sample
	lists := [][]int{
		{1}, {heavy}, {0, 1}, {1, 0}, {0, 0, heavy, 0}, {1, 1}, {1, 1, 1}, {heavy, heavy, heavy}, {1, heavy}, {heavy, 1},
		{3, 1, 3}, {1, 3, 1}, {5, 5, 1}, {1, 5, 5}, {0, 7, 0, 7, 0, 7}, {1, 2, 3, 4, 5, 6, 7}, {7, 6, 5, 4, 3, 2, 1},
		slices.Repeat([]int{1}, api.MaxShares), slices.Repeat([]int{heavy}, api.MaxShares), slices.Repeat([]int{heavy, 0}, api.MaxShares/2), slices.Repeat([]int{heavy, 1, 0, 77}, api.MaxShares/4),
	}
	seed := uint64(7)
	next := func(bound int) int {
		seed = seed*6364136223846793005 + 1442695040888963407
		return int(seed>>20) % bound
	}
	for range 120 {
		bound := []int{2, 4, 100, heavy + 1}[next(4)]
		list := []int{next(heavy) + 1}
		for range next(40) {
			list = append(list, next(bound))
		}
		lists = append(lists, list)
	}
	for _, list := range lists {
		for _, total := range []int{0, 1, 2, 3, 10, 255, 256, 257, next(1000), next(top), top - 1, top} {
			out = append(out, sample{total, list})
		}
	}
	return out
}

// split is Split of what it can't refuse.
func split(t *testing.T, s sample) []int {
	t.Helper()
	shares, err := Split(s.total, s.weights)
	if err != api.OK || len(shares) != len(s.weights) {
		t.Fatalf("Split(%d, %v): %v, error %d", s.total, s.weights, shares, err)
	}
	return shares
}

// P2.1

func TestSplit(t *testing.T) {
	for _, c := range []struct {
		total         int
		weights, want []int
	}{
		{10, []int{1, 1, 1}, []int{4, 3, 3}},
		{11, []int{1, 1, 1}, []int{4, 4, 3}},
		{12, []int{1, 1, 1}, []int{4, 4, 4}},
		{10, []int{1, 2, 4}, []int{1, 3, 6}},
		{10, []int{4, 2, 1}, []int{6, 3, 1}},
		{1, []int{1, 2}, []int{0, 1}},
		{1, []int{2, 2, 2}, []int{1, 0, 0}},
		{2, []int{1, 3, 3, 3}, []int{0, 1, 1, 0}},
		{0, []int{3, 0, heavy}, []int{0, 0, 0}},
		{0, []int{1}, []int{0}},
		{top, []int{1}, []int{top}},
		{top, []int{heavy}, []int{top}},
		{top, []int{0, heavy, 0}, []int{0, top, 0}},
		{top, []int{1, 1, 1}, []int{top/3 + 1, top / 3, top / 3}},
		{top, []int{1, heavy - 1, heavy}, []int{1 << 19, 1<<39 - 1<<19, 1 << 39}},
		{100, slices.Repeat([]int{1}, api.MaxShares), append(slices.Repeat([]int{1}, 100), make([]int, api.MaxShares-100)...)},
		{top, slices.Repeat([]int{heavy}, api.MaxShares), slices.Repeat([]int{top / api.MaxShares}, api.MaxShares)},
	} {
		if got := split(t, sample{c.total, c.weights}); !slices.Equal(got, c.want) {
			t.Errorf("Split(%d, %v): %v; want %v", c.total, c.weights, got, c.want)
		}
	}
}

func TestSplitByHand(t *testing.T) {
	for _, s := range samples() {
		if got, want := split(t, s), byHand(s.total, s.weights); !slices.Equal(got, want) {
			t.Errorf("Split(%d, %v): %v; want %v", s.total, s.weights, got, want)
		}
	}
}

func TestSplitRefuses(t *testing.T) {
	for _, s := range []sample{
		{-1, []int{1}}, {math.MinInt, []int{1}}, {top + 1, []int{1}}, {math.MaxInt, []int{1}},
		{1, nil}, {1, []int{}}, {0, nil}, {1, slices.Repeat([]int{1}, api.MaxShares+1)}, {1, make([]int, 1000)},
		{1, []int{-1}}, {1, []int{-1, 2}}, {1, []int{2, -1}}, {1, []int{5, math.MinInt}},
		{1, []int{heavy + 1}}, {1, []int{1, heavy + 1}}, {1, []int{math.MaxInt, 1}}, {1, []int{math.MaxInt, math.MaxInt, 3}},
		{1, []int{0}}, {1, []int{0, 0, 0}}, {0, []int{0}}, {1, make([]int, api.MaxShares)},
	} {
		if shares, err := Split(s.total, s.weights); len(shares) != 0 || err != api.ErrForm {
			t.Errorf("Split(%d, %v): %v, error %d; want none, ErrForm", s.total, s.weights, shares, err)
		}
	}
}

// R2
func TestSplitLeavesWeights(t *testing.T) {
	weights := []int{3, 1, 4, 1, 5}
	shares := split(t, sample{1000, weights})
	was := slices.Clone(shares)
	if !slices.Equal(weights, []int{3, 1, 4, 1, 5}) {
		t.Errorf("the weights have become %v", weights)
	}
	for i := range weights {
		weights[i] = 9
	}
	if !slices.Equal(shares, was) {
		t.Errorf("the shares %v have become %v with the weights", was, shares)
	}
	clear(shares[:cap(shares)])
	if again := split(t, sample{1000, []int{3, 1, 4, 1, 5}}); !slices.Equal(again, was) {
		t.Errorf("the shares %v are %v when asked again", was, again)
	}
}

// P2.2

func TestSharesAddUp(t *testing.T) {
	for _, s := range samples() {
		if got := sum(split(t, s)); got != s.total {
			t.Errorf("Split(%d, %v): shares of %d in all", s.total, s.weights, got)
		}
	}
}

func TestLargerWeightHasNoSmallerShare(t *testing.T) {
	for _, s := range samples() {
		shares := split(t, s)
		for i, a := range s.weights {
			for k, b := range s.weights {
				if a > b && shares[i] < shares[k] {
					t.Errorf("Split(%d, %v): the weight %d has %d, the weight %d has %d", s.total, s.weights, a, shares[i], b, shares[k])
				}
			}
		}
	}
}

func TestSharesAreNearlyExact(t *testing.T) {
	for _, s := range samples() {
		all := big.NewInt(int64(sum(s.weights)))
		for i, part := range split(t, s) {
			off := new(big.Int).Mul(big.NewInt(int64(part)), all)
			off.Sub(off, new(big.Int).Mul(big.NewInt(int64(s.total)), big.NewInt(int64(s.weights[i]))))
			if off.CmpAbs(all) >= 0 {
				t.Errorf("Split(%d, %v): share %d is %d, a unit or more from the exact one", s.total, s.weights, i, part)
			}
		}
	}
}

func TestNoWeightNoShare(t *testing.T) {
	for _, s := range samples() {
		for i, part := range split(t, s) {
			if s.weights[i] == 0 && part != 0 {
				t.Errorf("Split(%d, %v): share %d is %d without a weight", s.total, s.weights, i, part)
			}
		}
	}
}
