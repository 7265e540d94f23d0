package have

import (
	"bytes"
	"encoding/binary"
	"math"
	"math/big"
	"slices"
	"testing"

	"arras/api"
	"arras/code"
)

// spread returns n words, the same in every run.
func spread(seed uint64, n int) []uint64 {
	out := make([]uint64, n)
	for i := range out {
		seed = seed*6364136223846793005 + 1442695040888963407
		out[i] = seed>>17 ^ seed<<29
	}
	return out
}

// mixed returns a vector of n elements of all sizes.
func mixed(seed uint64, n int) []int {
	var out []int
	for _, word := range spread(seed, n) {
		out = append(out, int(word>>24)>>(word%41))
	}
	return out
}

// goodVectors are of every length: the least, the greatest, with one great element among small ones, and mixed ones.
func goodVectors() [][]int {
	var out [][]int
	for n := 1; n <= api.MaxReps; n++ {
		out = append(out, make([]int, n), slices.Repeat([]int{api.MaxTime}, n))
		for at := range n {
			one := slices.Repeat([]int{1}, n)
			one[at] = api.MaxTime - at
			out = append(out, one)
		}
		for seed := range 8 {
			out = append(out, mixed(uint64(100*n+seed), n))
		}
	}
	return out
}

// badElements are those of no vector.
func badElements() []int {
	return []int{-1, -2, -api.MaxTime, math.MinInt, math.MinInt + 1, api.MaxTime + 1, api.MaxTime + 2, 2 * api.MaxTime, 1 << 62, 1<<62 + 1, math.MaxInt - 1, math.MaxInt}
}

// badLengths are good elements, too few or too many.
func badLengths() [][]int {
	out := [][]int{nil, {}}
	for _, n := range []int{api.MaxReps + 1, api.MaxReps + 2, 2 * api.MaxReps, 256, 256 + api.MaxReps, 1 << 10, 1<<10 + 1} {
		out = append(out, make([]int, n), slices.Repeat([]int{1}, n), slices.Repeat([]int{api.MaxTime}, n))
	}
	return out
}

// badVectors are wrong by their length, or by one element, wherever it stands.
func badVectors() [][]int {
	out := badLengths()
	for _, bad := range badElements() {
		for _, n := range []int{1, 2, 3, api.MaxReps - 1, api.MaxReps} {
			for at := range n {
				v := slices.Repeat([]int{7}, n)
				v[at] = bad
				out = append(out, v)
			}
		}
	}
	return out
}

// pairs are compatible vectors: equal ones, one above the other, and neither above.
func pairs() [][2][]int {
	var out [][2][]int
	for n := 1; n <= api.MaxReps; n++ {
		low, high := make([]int, n), slices.Repeat([]int{api.MaxTime}, n)
		out = append(out, [2][]int{low, low}, [2][]int{low, high}, [2][]int{high, low}, [2][]int{high, high})
		for seed := range 20 {
			a, b := mixed(uint64(1000*n+seed), n), mixed(uint64(1000*n+500+seed), n)
			out = append(out, [2][]int{a, b}, [2][]int{b, a}, [2][]int{a, slices.Clone(a)})
		}
		for at := range n {
			a := mixed(uint64(7*n), n)
			b := slices.Clone(a)
			b[at] = (b[at] + 1) % (api.MaxTime + 1)
			out = append(out, [2][]int{a, b}, [2][]int{b, a})
		}
	}
	return out
}

// smallVectors are all of the length n with elements out of some.
func smallVectors(n int, some ...int) [][]int {
	out := [][]int{nil}
	for range n {
		var longer [][]int
		for _, v := range out {
			for _, element := range some {
				longer = append(longer, append(slices.Clone(v), element))
			}
		}
		out = longer
	}
	return out
}

func plainCovers(a, b []int) bool {
	for i := range b {
		if b[i] > a[i] {
			return false
		}
	}
	return true
}

func plainJoin(a, b []int) []int {
	out := slices.Clone(a)
	for i := range out {
		if b[i] > a[i] {
			out[i] = b[i]
		}
	}
	return out
}

func plainLacks(a, b []int) []int {
	out := make([]int, len(a))
	for i := range out {
		if b[i] > a[i] {
			out[i] = b[i] - a[i]
		}
	}
	return out
}

// plainCount adds with numbers of any size.
func plainCount(v []int) *big.Int {
	all := new(big.Int)
	for _, n := range v {
		all.Add(all, big.NewInt(int64(n)))
	}
	return all
}

// plainBytes encodes by the library numbers that need make no vector.
func plainBytes(v ...int) []byte {
	out := binary.AppendUvarint(nil, uint64(len(v)))
	for _, n := range v {
		out = binary.AppendUvarint(out, uint64(n))
	}
	return out
}

func wantCovers(t *testing.T, a, b []int, want bool, e api.Errno) {
	t.Helper()
	if got, gotE := Covers(a, b); got != want || gotE != e {
		t.Errorf("Covers(%v, %v): %v, %d, want %v, %d", a, b, got, gotE, want, e)
	}
}

func wantJoin(t *testing.T, a, b, want []int, e api.Errno) {
	t.Helper()
	if got, gotE := Join(a, b); !slices.Equal(got, want) || gotE != e {
		t.Errorf("Join(%v, %v): %v, %d, want %v, %d", a, b, got, gotE, want, e)
	}
}

func wantLacks(t *testing.T, a, b, want []int, e api.Errno) {
	t.Helper()
	if got, gotE := Lacks(a, b); !slices.Equal(got, want) || gotE != e {
		t.Errorf("Lacks(%v, %v): %v, %d, want %v, %d", a, b, got, gotE, want, e)
	}
}

func wantRefused(t *testing.T, a, b []int) {
	t.Helper()
	wantCovers(t, a, b, false, api.ErrForm)
	wantJoin(t, a, b, nil, api.ErrForm)
	wantLacks(t, a, b, nil, api.ErrForm)
}

func wantCount(t *testing.T, v []int, n int, e api.Errno) {
	t.Helper()
	if gotN, gotE := Count(v); gotN != n || gotE != e {
		t.Errorf("Count(%v): %d, %d, want %d, %d", v, gotN, gotE, n, e)
	}
}

func wantBytes(t *testing.T, v []int, b []byte, e api.Errno) {
	t.Helper()
	if gotB, gotE := Bytes(v); !bytes.Equal(gotB, b) || gotE != e {
		t.Errorf("Bytes(%v): %v, %d, want %v, %d", v, gotB, gotE, b, e)
	}
}

func wantTake(t *testing.T, b []byte, v []int, k int, e api.Errno) {
	t.Helper()
	if gotV, gotK, gotE := Take(b); !slices.Equal(gotV, v) || gotK != k || gotE != e {
		t.Errorf("Take(%v): %v, %d, %d, want %v, %d, %d", b, gotV, gotK, gotE, v, k, e)
	}
}

// P7.1

func TestCheckAtTheEdges(t *testing.T) {
	for _, c := range []struct {
		v []int
		e api.Errno
	}{
		{nil, api.ErrForm},
		{[]int{}, api.ErrForm},
		{[]int{0}, api.OK},
		{[]int{1}, api.OK},
		{[]int{1 << 40}, api.OK},
		{[]int{1<<40 + 1}, api.ErrForm},
		{[]int{-1}, api.ErrForm},
		{[]int{0, 0}, api.OK},
		{[]int{0, 1 << 40}, api.OK},
		{[]int{0, 1<<40 + 1}, api.ErrForm},
		{[]int{-1, 0}, api.ErrForm},
		{make([]int, 15), api.OK},
		{make([]int, 16), api.OK},
		{make([]int, 17), api.ErrForm},
		{slices.Repeat([]int{1 << 40}, 16), api.OK},
		{slices.Repeat([]int{1 << 40}, 17), api.ErrForm},
	} {
		if e := Check(c.v); e != c.e {
			t.Errorf("Check(%v): %d, want %d", c.v, e, c.e)
		}
	}
}

func TestCheckOfManyVectors(t *testing.T) {
	for _, v := range goodVectors() {
		if e := Check(v); e != api.OK {
			t.Errorf("Check(%v): %d", v, e)
		}
	}
	for _, v := range badVectors() {
		if e := Check(v); e != api.ErrForm {
			t.Errorf("Check(%v): %d", v, e)
		}
	}
}

func TestJoinOfTheExample(t *testing.T) {
	wantJoin(t, []int{1, 4}, []int{2, 3}, []int{2, 4}, api.OK)
}

func TestKnownPairs(t *testing.T) {
	const top = 1 << 40
	for _, c := range []struct {
		a, b   []int
		covers bool
		join   []int
		lacks  []int
	}{
		{[]int{0}, []int{0}, true, []int{0}, []int{0}},
		{[]int{0}, []int{1}, false, []int{1}, []int{1}},
		{[]int{1}, []int{0}, true, []int{1}, []int{0}},
		{[]int{0}, []int{top}, false, []int{top}, []int{top}},
		{[]int{top}, []int{0}, true, []int{top}, []int{0}},
		{[]int{top}, []int{top}, true, []int{top}, []int{0}},
		{[]int{top - 1}, []int{top}, false, []int{top}, []int{1}},
		{[]int{1, 4}, []int{2, 3}, false, []int{2, 4}, []int{1, 0}},
		{[]int{2, 3}, []int{1, 4}, false, []int{2, 4}, []int{0, 1}},
		{[]int{2, 4}, []int{1, 4}, true, []int{2, 4}, []int{0, 0}},
		{[]int{1, 4}, []int{2, 4}, false, []int{2, 4}, []int{1, 0}},
		{[]int{9, 0, 5}, []int{2, 7, 5}, false, []int{9, 7, 5}, []int{0, 7, 0}},
		// More in all than b, and yet not above it everywhere.
		{[]int{top, 0}, []int{0, 1}, false, []int{top, 1}, []int{0, 1}},
	} {
		wantCovers(t, c.a, c.b, c.covers, api.OK)
		wantJoin(t, c.a, c.b, c.join, api.OK)
		wantLacks(t, c.a, c.b, c.lacks, api.OK)
	}
}

func TestPairsAreThePlainOnes(t *testing.T) {
	for _, p := range pairs() {
		a, b := p[0], p[1]
		wantCovers(t, a, b, plainCovers(a, b), api.OK)
		wantJoin(t, a, b, plainJoin(a, b), api.OK)
		wantLacks(t, a, b, plainLacks(a, b), api.OK)
	}
}

func TestOneElementDecides(t *testing.T) {
	for n := 1; n <= api.MaxReps; n++ {
		for at := range n {
			a := slices.Repeat([]int{5}, n)
			b := slices.Clone(a)
			b[at]++
			lacks := make([]int, n)
			lacks[at] = 1
			wantCovers(t, a, b, false, api.OK)
			wantCovers(t, b, a, true, api.OK)
			wantLacks(t, a, b, lacks, api.OK)
			wantLacks(t, b, a, make([]int, n), api.OK)
		}
	}
}

func TestUnlikeLengthsAreRefused(t *testing.T) {
	for n := range api.MaxReps + 2 {
		for m := range api.MaxReps + 2 {
			if n != m {
				wantRefused(t, make([]int, n), make([]int, m))
				wantRefused(t, slices.Repeat([]int{3}, n), slices.Repeat([]int{api.MaxTime}, m))
			}
		}
	}
}

func TestWhatIsNoVectorIsRefusedOnEitherSide(t *testing.T) {
	for _, bad := range badVectors() {
		wantRefused(t, bad, bad)
		wantRefused(t, bad, []int{1, 4})
		wantRefused(t, []int{1, 4}, bad)
		// Of the same length: a vector, unless the length is wrong.
		wantRefused(t, bad, make([]int, len(bad)))
		wantRefused(t, make([]int, len(bad)), bad)
		wantRefused(t, bad, slices.Repeat([]int{api.MaxTime}, len(bad)))
		wantRefused(t, slices.Repeat([]int{api.MaxTime}, len(bad)), bad)
	}
}

func TestCountOfKnownVectors(t *testing.T) {
	wantCount(t, []int{0}, 0, api.OK)
	wantCount(t, []int{5}, 5, api.OK)
	wantCount(t, []int{1, 4}, 5, api.OK)
	wantCount(t, []int{1, 20, 300}, 321, api.OK)
	wantCount(t, make([]int, 16), 0, api.OK)
	wantCount(t, []int{1 << 40}, 1<<40, api.OK)
	wantCount(t, slices.Repeat([]int{1 << 40}, 16), 1<<44, api.OK)
}

func TestCountIsThePlainOne(t *testing.T) {
	for _, v := range goodVectors() {
		n, e := Count(v)
		if e != api.OK || plainCount(v).Cmp(big.NewInt(int64(n))) != 0 {
			t.Errorf("Count(%v): %d, %d, want %d", v, n, e, plainCount(v))
		}
	}
}

func TestCountRefuses(t *testing.T) {
	for _, v := range badVectors() {
		wantCount(t, v, 0, api.ErrForm)
	}
	// The sum itself would be a good one.
	wantCount(t, []int{-1, 2}, 0, api.ErrForm)
	wantCount(t, []int{api.MaxTime + 1, 0}, 0, api.ErrForm)
}

// P7.2

func TestBytesOfKnownVectors(t *testing.T) {
	for _, c := range []struct {
		v    []int
		want []byte
	}{
		{[]int{0}, []byte{1, 0}},
		{[]int{1, 4}, []byte{2, 1, 4}},
		{[]int{127, 128}, []byte{2, 127, 128, 1}},
		{[]int{300, 0, 2}, []byte{3, 172, 2, 0, 2}},
		{[]int{1<<40 - 1}, []byte{1, 255, 255, 255, 255, 255, 31}},
		{[]int{1 << 40}, []byte{1, 128, 128, 128, 128, 128, 32}},
		{make([]int, 16), append([]byte{16}, make([]byte, 16)...)},
	} {
		wantBytes(t, c.v, c.want, api.OK)
		wantTake(t, c.want, c.v, len(c.want), api.OK)
	}
}

func TestBytesIsThePlainOne(t *testing.T) {
	for _, v := range goodVectors() {
		wantBytes(t, v, plainBytes(v...), api.OK)
		want, e := code.Nums(v)
		wantBytes(t, v, want, e)
	}
}

func TestBytesRefuses(t *testing.T) {
	for _, v := range badVectors() {
		wantBytes(t, v, nil, api.ErrForm)
	}
}

func TestTakeWithBytesBehind(t *testing.T) {
	for _, v := range goodVectors() {
		b := plainBytes(v...)
		for _, tail := range []string{"", "\x00", "\x01", "\x80", "\x80\x00", "\xff\xff"} {
			wantTake(t, append(slices.Clone(b), tail...), v, len(b), api.OK)
		}
	}
}

func TestTakeCutOff(t *testing.T) {
	wantTake(t, nil, nil, 0, api.ErrCut)
	wantTake(t, []byte{}, nil, 0, api.ErrCut)
	for _, v := range goodVectors() {
		b := plainBytes(v...)
		for end := range b {
			wantTake(t, b[:end], nil, 0, api.ErrCut)
		}
	}
}

// badNums are bytes that are an encoding of no number, and not cut off.
func badNums() [][]byte {
	return [][]byte{
		{128, 0},
		{129, 0},
		{255, 128, 0},
		bytes.Repeat([]byte{128}, 9),
		bytes.Repeat([]byte{255}, 10),
		append(bytes.Repeat([]byte{128}, 8), 65),
		append(bytes.Repeat([]byte{255}, 8), 127),
	}
}

func TestTakeOfALengthThatIsNone(t *testing.T) {
	for _, bad := range badNums() {
		wantTake(t, bad, nil, 0, api.ErrForm)
		wantTake(t, append(slices.Clone(bad), make([]byte, 20)...), nil, 0, api.ErrForm)
	}
	for n := range 9 {
		wantTake(t, bytes.Repeat([]byte{128}, n), nil, 0, api.ErrCut)
	}
}

func TestTakeOfLengthsThatNoListHas(t *testing.T) {
	for _, n := range []int{1<<10 + 1, 1<<10 + 2, 1 << 20, 1 << 40, 1 << 62} {
		b := binary.AppendUvarint(nil, uint64(n))
		// Nothing needs follow: the length is refused ahead of the elements.
		wantTake(t, b, nil, 0, api.ErrForm)
		wantTake(t, append(b, make([]byte, 1<<11)...), nil, 0, api.ErrForm)
	}
}

func TestTakeOfElementsThatAreNone(t *testing.T) {
	for _, n := range []int{1, 2, 3, api.MaxReps, api.MaxReps + 1} {
		for at := range n {
			head := append([]byte{byte(n)}, make([]byte, at)...)
			for _, bad := range badNums() {
				// Refused where it stands, whether the rest is there or not.
				b := append(slices.Clone(head), bad...)
				wantTake(t, b, nil, 0, api.ErrForm)
				wantTake(t, append(b, make([]byte, n)...), nil, 0, api.ErrForm)
			}
			for size := range 9 {
				wantTake(t, append(slices.Clone(head), bytes.Repeat([]byte{128}, size)...), nil, 0, api.ErrCut)
			}
		}
	}
}

func TestTakeRefusesRowsThatAreNoVector(t *testing.T) {
	for _, v := range badVectors() {
		if len(v) > 1<<10 || slices.ContainsFunc(v, func(n int) bool { return n < 0 || n > 1<<62 }) {
			continue
		}
		b := plainBytes(v...)
		wantTake(t, b, nil, 0, api.ErrForm)
		wantTake(t, append(slices.Clone(b), 0, 1), nil, 0, api.ErrForm)
		// Cut off, the end is told ahead of the row that would be no vector.
		for end := range b {
			wantTake(t, b[:end], nil, 0, api.ErrCut)
		}
	}
}

// plainTake decodes by the document's words: a list of numbers, then whether that is a vector.
func plainTake(b []byte) ([]int, int, api.Errno) {
	l, k, e := code.TakeNums(b)
	if e != api.OK {
		return nil, 0, e
	}
	if len(l) == 0 || len(l) > 16 || slices.Max(l) > 1<<40 {
		return nil, 0, api.ErrForm
	}
	return l, k, api.OK
}

// mixedBytes are mostly small or going on, behind a short length: many of them begin with a vector.
func mixedBytes() [][]byte {
	var out [][]byte
	for i, word := range spread(3, 20000) {
		var b []byte
		for at := range i % 20 {
			b = append(b, []byte{0, 1, 2, 5, 16, 17, 128, 255}[word>>(3*at)%8])
		}
		if len(b) > 0 && i%2 == 0 {
			b[0] = byte(word>>60) + 1
		}
		out = append(out, b)
	}
	return out
}

func TestTakeOfMixedBytes(t *testing.T) {
	for _, b := range mixedBytes() {
		v, k, e := plainTake(b)
		wantTake(t, b, v, k, e)
	}
}

func TestVectorsComeBack(t *testing.T) {
	for _, v := range goodVectors() {
		b, e := Bytes(v)
		if e != api.OK {
			t.Errorf("Bytes(%v): %d", v, e)
		}
		wantTake(t, b, v, len(b), api.OK)
	}
}

func TestWhatIsDecodedWasEncodedSo(t *testing.T) {
	taken := 0
	for _, b := range mixedBytes() {
		v, k, e := Take(b)
		if e != api.OK {
			continue
		}
		taken++
		if Check(v) != api.OK {
			t.Errorf("Take(%v): %v, which is no vector", b, v)
		}
		wantBytes(t, v, b[:k], api.OK)
	}
	if taken < 1000 {
		t.Errorf("too few were decoded: %d", taken)
	}
}

// P7.3

// wantLeast holds the join of a and b against all others that might cover both.
func wantLeast(t *testing.T, a, b []int, others [][]int) {
	t.Helper()
	join, e := Join(a, b)
	if e != api.OK || Check(join) != api.OK {
		t.Fatalf("Join(%v, %v): %v, %d", a, b, join, e)
	}
	wantCovers(t, join, a, true, api.OK)
	wantCovers(t, join, b, true, api.OK)
	for _, other := range others {
		overA, _ := Covers(other, a)
		overB, _ := Covers(other, b)
		overJoin, _ := Covers(other, join)
		if overJoin != (overA && overB) {
			t.Errorf("Join(%v, %v): %v; of %v that covers them: %v, %v, %v", a, b, join, other, overA, overB, overJoin)
		}
	}
}

func TestJoinIsTheLeastOfAll(t *testing.T) {
	for _, all := range [][][]int{
		smallVectors(1, 0, 1, 2, 3, 4, api.MaxTime-1, api.MaxTime),
		smallVectors(2, 0, 1, api.MaxTime-1, api.MaxTime),
		smallVectors(3, 0, 1, 2),
	} {
		for _, a := range all {
			for _, b := range all {
				wantLeast(t, a, b, all)
			}
		}
	}
}

func TestNothingBelowTheJoinCovers(t *testing.T) {
	for _, p := range pairs() {
		a, b := p[0], p[1]
		var others [][]int
		join, _ := Join(a, b)
		for at := range join {
			if join[at] > 0 {
				less := slices.Clone(join)
				less[at]--
				others = append(others, less)
				// Great everywhere else, and yet too small here.
				less = slices.Repeat([]int{api.MaxTime}, len(join))
				less[at] = join[at] - 1
				others = append(others, less)
			}
		}
		wantLeast(t, a, b, others)
		for _, other := range others {
			overA, _ := Covers(other, a)
			overB, _ := Covers(other, b)
			if overA && overB {
				t.Errorf("Join(%v, %v): %v, but %v covers both", a, b, join, other)
			}
		}
	}
}

func TestLacksLeadToTheJoin(t *testing.T) {
	for _, p := range pairs() {
		a, b := p[0], p[1]
		lacks, _ := Lacks(a, b)
		for i := range lacks {
			lacks[i] += a[i]
		}
		wantJoin(t, a, b, lacks, api.OK)
		wantJoin(t, b, a, lacks, api.OK)
	}
}

// R1 and R2

func TestTheVectorsAreLeft(t *testing.T) {
	whole := []int{1, 4, 2, 3, api.MaxTime, 0, -1, 9, api.MaxTime + 1, 5}
	before := slices.Clone(whole)
	for from := range whole {
		for to := from; to <= len(whole); to++ {
			a, b := whole[from:to], whole[:to-from]
			Check(a)
			Count(a)
			Bytes(a)
			for _, p := range [][2][]int{{a, b}, {b, a}, {a, a}} {
				Covers(p[0], p[1])
				Join(p[0], p[1])
				Lacks(p[0], p[1])
			}
			if !slices.Equal(whole, before) {
				t.Fatalf("the elements from %d to %d, or others, were changed: %v", from, to, whole)
			}
		}
	}
}

func TestTheBytesAreLeft(t *testing.T) {
	whole := slices.Concat(plainBytes(1, 4), plainBytes(300, 1<<40), plainBytes(), plainBytes(1<<62), plainBytes(make([]int, 17)...), bytes.Repeat([]byte{128}, 9))
	before := slices.Clone(whole)
	for from := range whole {
		for to := from; to <= len(whole); to++ {
			Take(whole[from:to])
			if !bytes.Equal(whole, before) {
				t.Fatalf("the bytes from %d to %d, or those beside them, were changed", from, to)
			}
		}
	}
}

// soil writes into all of a result, its spare capacity included.
func soil[T byte | int](l []T) {
	l = l[:cap(l)]
	for i := range l {
		l[i] = 99
	}
}

func TestListsAreNew(t *testing.T) {
	// With spare capacity, of which nothing may be taken.
	room := []int{1, 4, 7, 8, 2, 3, 7, 8, 2, 4, 7, 8}
	low, other, high := room[0:2], room[4:6], room[8:10]
	encoded := append(plainBytes(1, 4, 300), 55, 66)
	rooms, bytesBefore := slices.Clone(room), slices.Clone(encoded)
	for i, call := range []func() []int{
		func() []int { l, _ := Join(low, other); return l },
		func() []int { l, _ := Join(high, low); return l },
		func() []int { l, _ := Join(low, high); return l },
		func() []int { l, _ := Join(low, low); return l },
		func() []int { l, _ := Lacks(low, other); return l },
		func() []int { l, _ := Lacks(make([]int, 2), high); return l },
		func() []int { l, _ := Lacks(high, low); return l },
		func() []int { l, _, _ := Take(encoded); return l },
	} {
		first, second := call(), call()
		want := slices.Clone(second)
		soil(first)
		if !slices.Equal(second, want) || !slices.Equal(call(), want) {
			t.Errorf("call %d: its results share memory", i)
		}
		if !slices.Equal(room, rooms) || !bytes.Equal(encoded, bytesBefore) {
			t.Fatalf("call %d: its result shares memory with an argument", i)
		}
	}
}

func TestListsStayWhenTheArgumentsChange(t *testing.T) {
	a, b, encoded := []int{1, 4}, []int{2, 3}, plainBytes(1, 4, 300)
	join, _ := Join(a, b)
	lacks, _ := Lacks(a, b)
	taken, _, _ := Take(encoded)
	soil(a)
	soil(b)
	soil(encoded)
	if !slices.Equal(join, []int{2, 4}) || !slices.Equal(lacks, []int{1, 0}) || !slices.Equal(taken, []int{1, 4, 300}) {
		t.Errorf("a result shares memory with an argument: %v, %v, %v", join, lacks, taken)
	}
}

func TestBytesAreNew(t *testing.T) {
	for _, v := range [][]int{{0}, {1, 4}, {300, api.MaxTime}, make([]int, api.MaxReps)} {
		first, _ := Bytes(v)
		second, _ := Bytes(v)
		soil(first)
		third, _ := Bytes(v)
		if want := plainBytes(v...); !bytes.Equal(second, want) || !bytes.Equal(third, want) {
			t.Errorf("Bytes(%v): its results share memory: %v, %v", v, second, third)
		}
	}
}
