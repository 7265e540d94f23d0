package stamp

import (
	"bytes"
	"cmp"
	"encoding/binary"
	"math"
	"slices"
	"testing"

	"arras/api"
	"arras/code"
)

var (
	root  = api.Stamp{Time: 0, Rep: 0}
	trash = api.Stamp{Time: 0, Rep: 1}
)

// spread returns n words, the same in every run.
func spread(seed uint64, n int) []uint64 {
	out := make([]uint64, n)
	for i := range out {
		seed = seed*6364136223846793005 + 1442695040888963407
		out[i] = seed>>17 ^ seed<<29
	}
	return out
}

// goodTimes are those of stamps: the first, the last, those around each power of 2, and mixed ones.
func goodTimes() []int {
	out := []int{1, 2, 3, 4, 5, 300, api.MaxTime - 1, api.MaxTime}
	for bit := 2; bit < 40; bit++ {
		out = append(out, 1<<bit-1, 1<<bit, 1<<bit+1)
	}
	for i, word := range spread(1, 50) {
		out = append(out, max(1, int(word>>24)>>(i%40)))
	}
	return out
}

// badTimes are those of no place.
func badTimes() []int {
	return []int{-1, -2, -api.MaxTime, math.MinInt, math.MinInt + 1, api.MaxTime + 1, api.MaxTime + 2, 2 * api.MaxTime, 1 << 62, 1<<62 + 1, math.MaxInt - 1, math.MaxInt}
}

// badReps are the numbers of no replica.
func badReps() []int {
	return []int{-1, -2, -api.MaxReps, math.MinInt, api.MaxReps, api.MaxReps + 1, 128, 1 << 32, 1 << 62, 1<<62 + 1, math.MaxInt}
}

// goodStamps are of every good time and every replica.
func goodStamps() []api.Stamp {
	var out []api.Stamp
	for _, time := range goodTimes() {
		for rep := range api.MaxReps {
			out = append(out, api.Stamp{Time: time, Rep: rep})
		}
	}
	return out
}

func goodPlaces() []api.Stamp {
	return append([]api.Stamp{root, trash}, goodStamps()...)
}

// badPlaces are wrong by their Time, by their Rep, by both, or by a Rep that Time 0 does not have.
func badPlaces() []api.Stamp {
	var out []api.Stamp
	for rep := 2; rep < api.MaxReps; rep++ {
		out = append(out, api.Stamp{Time: 0, Rep: rep})
	}
	for _, time := range badTimes() {
		for rep := range api.MaxReps {
			out = append(out, api.Stamp{Time: time, Rep: rep})
		}
	}
	for _, rep := range badReps() {
		for _, time := range slices.Concat([]int{0, 1, 2, 300, api.MaxTime}, badTimes()) {
			out = append(out, api.Stamp{Time: time, Rep: rep})
		}
	}
	return out
}

// plainBytes encodes by the library two numbers that need make no place.
func plainBytes(time, rep int) []byte {
	return binary.AppendUvarint(binary.AppendUvarint(nil, uint64(time)), uint64(rep))
}

func wantTake(t *testing.T, b []byte, s api.Stamp, k int, e api.Errno) {
	t.Helper()
	if gotS, gotK, gotE := Take(b); gotS != s || gotK != k || gotE != e {
		t.Errorf("Take(%v): %v, %d, %d, want %v, %d, %d", b, gotS, gotK, gotE, s, k, e)
	}
}

func wantNext(t *testing.T, time, rep int, s api.Stamp, e api.Errno) {
	t.Helper()
	if gotS, gotE := Next(time, rep); gotS != s || gotE != e {
		t.Errorf("Next(%d, %d): %v, %d, want %v, %d", time, rep, gotS, gotE, s, e)
	}
}

// P6.1

func TestStampsAndPlacesAtTheEdges(t *testing.T) {
	for _, c := range []struct {
		time, rep    int
		stamp, place bool
	}{
		{0, 0, false, true}, // the root
		{0, 1, false, true}, // the trash
		{0, -1, false, false},
		{0, 2, false, false},
		{0, 15, false, false},
		{0, 16, false, false},
		{1, 0, true, true},
		{1, 1, true, true},
		{1, 15, true, true},
		{1, 16, false, false},
		{1, -1, false, false},
		{5, 2, true, true},
		{1 << 40, 0, true, true},
		{1 << 40, 15, true, true},
		{1 << 40, 16, false, false},
		{1 << 40, -1, false, false},
		{1<<40 + 1, 0, false, false},
		{1<<40 + 1, 1, false, false},
		{1<<40 + 1, 15, false, false},
		{-1, 0, false, false},
		{-1, 1, false, false},
		{-1, -1, false, false},
		{math.MaxInt, 0, false, false},
		{math.MinInt, 0, false, false},
		{1, math.MaxInt, false, false},
		{1, math.MinInt, false, false},
		{0, math.MinInt, false, false},
	} {
		s := api.Stamp{Time: c.time, Rep: c.rep}
		want := api.ErrForm
		if c.stamp {
			want = api.OK
		}
		if e := Check(s); e != want {
			t.Errorf("Check(%v): %d, want %d", s, e, want)
		}
		if place := Place(s); place != c.place {
			t.Errorf("Place(%v): %v, want %v", s, place, c.place)
		}
	}
}

func TestStampsArePlaces(t *testing.T) {
	for _, s := range goodStamps() {
		if e, place := Check(s), Place(s); e != api.OK || !place {
			t.Errorf("%v: Check %d, Place %v", s, e, place)
		}
	}
	for _, s := range []api.Stamp{root, trash} {
		if e, place := Check(s), Place(s); e != api.ErrForm || !place {
			t.Errorf("%v: Check %d, Place %v", s, e, place)
		}
	}
}

func TestWhatIsNoPlaceIsNoStamp(t *testing.T) {
	for _, s := range badPlaces() {
		if e, place := Check(s), Place(s); e != api.ErrForm || place {
			t.Errorf("%v: Check %d, Place %v", s, e, place)
		}
	}
}

func TestCmpOfRisingValues(t *testing.T) {
	rising := []api.Stamp{
		{Time: math.MinInt, Rep: math.MinInt},
		{Time: math.MinInt, Rep: math.MaxInt},
		{Time: -5, Rep: 3},
		{Time: -1, Rep: 99},
		{Time: 0, Rep: math.MinInt},
		{Time: 0, Rep: -1},
		root,
		trash,
		{Time: 0, Rep: 2},
		{Time: 0, Rep: math.MaxInt},
		{Time: 1, Rep: 0},
		{Time: 1, Rep: 15},
		{Time: 2, Rep: -9},
		{Time: 2, Rep: 0},
		{Time: 300, Rep: 7},
		{Time: 301, Rep: 6},
		{Time: api.MaxTime, Rep: 0},
		{Time: api.MaxTime, Rep: 15},
		{Time: api.MaxTime + 1, Rep: 0},
		{Time: math.MaxInt, Rep: math.MinInt},
		{Time: math.MaxInt, Rep: math.MaxInt},
	}
	for i, a := range rising {
		for k, b := range rising {
			if c := Cmp(a, b); c != cmp.Compare(i, k) {
				t.Errorf("Cmp(%v, %v): %d, want %d", a, b, c, cmp.Compare(i, k))
			}
		}
	}
}

func TestCmpIsByTimeThenByRep(t *testing.T) {
	var all []api.Stamp
	for i, word := range spread(5, 200) {
		// Few Times and few Reps, so that equal ones meet; some of both are of no place.
		s := api.Stamp{Time: int(word>>9)%4 - 1, Rep: int(word>>23)%5 - 1}
		if i%4 == 0 {
			s.Time = int(word)
		}
		all = append(all, s)
	}
	for _, a := range all {
		for _, b := range all {
			want := slices.Compare([]int{a.Time, a.Rep}, []int{b.Time, b.Rep})
			if c := Cmp(a, b); c != want {
				t.Errorf("Cmp(%v, %v): %d, want %d", a, b, c, want)
			}
		}
	}
}

func TestNextOfTheExample(t *testing.T) {
	wantNext(t, 4, 2, api.Stamp{Time: 5, Rep: 2}, api.OK)
}

func TestNextIsOneLater(t *testing.T) {
	for rep := range api.MaxReps {
		wantNext(t, 0, rep, api.Stamp{Time: 1, Rep: rep}, api.OK)
		for _, time := range goodTimes() {
			if time < api.MaxTime {
				wantNext(t, time, rep, api.Stamp{Time: time + 1, Rep: rep}, api.OK)
			}
		}
	}
}

func TestNextAtTheLastTimes(t *testing.T) {
	for rep := range api.MaxReps {
		wantNext(t, 1<<40-1, rep, api.Stamp{Time: 1 << 40, Rep: rep}, api.OK)
		wantNext(t, 1<<40, rep, api.Stamp{}, api.ErrFull)
		wantNext(t, 1<<40+1, rep, api.Stamp{}, api.ErrForm)
	}
}

func TestNextRefuses(t *testing.T) {
	for _, time := range badTimes() {
		for rep := range api.MaxReps {
			wantNext(t, time, rep, api.Stamp{}, api.ErrForm)
		}
	}
	for _, rep := range badReps() {
		// At MaxTime, too: what is not of its form is told ahead of what is full.
		for _, time := range slices.Concat([]int{0, 1, api.MaxTime - 1, api.MaxTime}, badTimes()) {
			wantNext(t, time, rep, api.Stamp{}, api.ErrForm)
		}
	}
}

// P6.2

func TestBytesOfKnownPlaces(t *testing.T) {
	for _, c := range []struct {
		s    api.Stamp
		want []byte
	}{
		{root, []byte{0, 0}},
		{trash, []byte{0, 1}},
		{api.Stamp{Time: 1, Rep: 0}, []byte{1, 0}},
		{api.Stamp{Time: 5, Rep: 2}, []byte{5, 2}},
		{api.Stamp{Time: 127, Rep: 15}, []byte{127, 15}},
		{api.Stamp{Time: 128, Rep: 15}, []byte{128, 1, 15}},
		{api.Stamp{Time: 300, Rep: 1}, []byte{172, 2, 1}},
		{api.Stamp{Time: 1<<40 - 1, Rep: 0}, []byte{255, 255, 255, 255, 255, 31, 0}},
		{api.Stamp{Time: 1 << 40, Rep: 15}, []byte{128, 128, 128, 128, 128, 32, 15}},
	} {
		if b, e := Bytes(c.s); !bytes.Equal(b, c.want) || e != api.OK {
			t.Errorf("Bytes(%v): %v, %d, want %v", c.s, b, e, c.want)
		}
		wantTake(t, c.want, c.s, len(c.want), api.OK)
	}
}

func TestBytesIsThePlainOne(t *testing.T) {
	for _, s := range goodPlaces() {
		want := plainBytes(s.Time, s.Rep)
		if b, e := Bytes(s); !bytes.Equal(b, want) || e != api.OK {
			t.Errorf("Bytes(%v): %v, %d, want %v", s, b, e, want)
		}
	}
}

func TestBytesRefuses(t *testing.T) {
	for _, s := range badPlaces() {
		if b, e := Bytes(s); b != nil || e != api.ErrForm {
			t.Errorf("Bytes(%v): %v, %d", s, b, e)
		}
	}
}

func TestTakeWithBytesBehind(t *testing.T) {
	for _, s := range goodPlaces() {
		b := plainBytes(s.Time, s.Rep)
		for _, tail := range []string{"", "\x00", "\x01", "\x80", "\x80\x00", "\xff\xff"} {
			wantTake(t, append(slices.Clone(b), tail...), s, len(b), api.OK)
		}
	}
}

func TestTakeCutOff(t *testing.T) {
	wantTake(t, nil, api.Stamp{}, 0, api.ErrCut)
	wantTake(t, []byte{}, api.Stamp{}, 0, api.ErrCut)
	for _, s := range goodPlaces() {
		b := plainBytes(s.Time, s.Rep)
		for end := range b {
			wantTake(t, b[:end], api.Stamp{}, 0, api.ErrCut)
		}
	}
}

// badNums are bytes that are an encoding of no number, and not cut off.
func badNums() [][]byte {
	return [][]byte{
		{128, 0},
		{129, 0},
		{255, 128, 0},
		bytes.Repeat([]byte{128}, 9),
		bytes.Repeat([]byte{255}, 10),
		append(bytes.Repeat([]byte{128}, 8), 65),
		append(bytes.Repeat([]byte{255}, 8), 127),
	}
}

func TestTakeTellsTheErrorOfTime(t *testing.T) {
	for _, bad := range badNums() {
		// Whatever Rep is: none, good, cut off, of no replica.
		for _, rep := range [][]byte{nil, {0}, {15}, {128}, {16}, {128, 0}} {
			wantTake(t, append(slices.Clone(bad), rep...), api.Stamp{}, 0, api.ErrForm)
		}
	}
	for n := range 9 {
		wantTake(t, bytes.Repeat([]byte{128}, n), api.Stamp{}, 0, api.ErrCut)
	}
}

func TestTakeTellsTheErrorOfRep(t *testing.T) {
	for _, time := range []int{0, 1, 300, api.MaxTime, api.MaxTime + 1, 1 << 62} {
		b := binary.AppendUvarint(nil, uint64(time))
		for _, bad := range badNums() {
			wantTake(t, append(slices.Clone(b), bad...), api.Stamp{}, 0, api.ErrForm)
		}
		// A Time that no place has is not told: Rep's end comes ahead of it.
		for n := range 9 {
			wantTake(t, append(slices.Clone(b), bytes.Repeat([]byte{128}, n)...), api.Stamp{}, 0, api.ErrCut)
		}
	}
}

func TestTakeRefusesNumbersThatMakeNoPlace(t *testing.T) {
	for _, s := range badPlaces() {
		if s.Time < 0 || s.Time > 1<<62 || s.Rep < 0 || s.Rep > 1<<62 {
			continue
		}
		b := plainBytes(s.Time, s.Rep)
		wantTake(t, b, api.Stamp{}, 0, api.ErrForm)
		wantTake(t, append(b, 0), api.Stamp{}, 0, api.ErrForm)
	}
}

// plainTake decodes by the document's words: two numbers, then whether they make a place.
func plainTake(b []byte) (api.Stamp, int, api.Errno) {
	var numbers []int
	all := 0
	for range 2 {
		n, k, e := code.TakeNum(b[all:])
		if e != api.OK {
			return api.Stamp{}, 0, e
		}
		numbers = append(numbers, n)
		all += k
	}
	time, rep := numbers[0], numbers[1]
	if time == 0 && rep > 1 || time > 1<<40 || rep > 15 {
		return api.Stamp{}, 0, api.ErrForm
	}
	return api.Stamp{Time: time, Rep: rep}, all, api.OK
}

func TestTakeOfEveryThreeOfSomeBytes(t *testing.T) {
	some := []byte{0, 1, 2, 3, 14, 15, 16, 17, 126, 127, 128, 129, 143, 144, 254, 255}
	for _, first := range some {
		for _, second := range some {
			for _, third := range some {
				b := []byte{first, second, third}
				s, k, e := plainTake(b)
				wantTake(t, b, s, k, e)
			}
		}
	}
}

func TestTakeOfMixedBytes(t *testing.T) {
	for _, b := range mixedBytes() {
		s, k, e := plainTake(b)
		wantTake(t, b, s, k, e)
	}
}

// mixedBytes are short, and mostly small or going on: many of them begin with a place.
func mixedBytes() [][]byte {
	var out [][]byte
	for i, word := range spread(3, 20000) {
		b := make([]byte, 0, 14)
		for at := range i % 14 {
			b = append(b, []byte{0, 1, 2, 15, 16, 127, 128, 255}[word>>(3*at)%8])
		}
		out = append(out, b)
	}
	return out
}

// P6.3

func TestNextIsAboveAllThatAreNotLater(t *testing.T) {
	stamps := goodStamps()
	for _, time := range []int{0, 1, 2, 4, 127, 128, 300, 1 << 20, api.MaxTime - 2, api.MaxTime - 1} {
		for rep := range api.MaxReps {
			next, e := Next(time, rep)
			if e != api.OK || Check(next) != api.OK {
				t.Fatalf("Next(%d, %d): %v, %d", time, rep, next, e)
			}
			for _, s := range stamps {
				if s.Time <= time && (Cmp(next, s) != 1 || Cmp(s, next) != -1) {
					t.Errorf("Next(%d, %d): %v, which is not above %v", time, rep, next, s)
				}
			}
		}
	}
}

func TestPlacesComeBack(t *testing.T) {
	for _, s := range goodPlaces() {
		b, e := Bytes(s)
		if e != api.OK {
			t.Errorf("Bytes(%v): %d", s, e)
		}
		wantTake(t, b, s, len(b), api.OK)
	}
}

func TestWhatIsDecodedWasEncodedSo(t *testing.T) {
	taken := 0
	for _, b := range mixedBytes() {
		s, k, e := Take(b)
		if e != api.OK {
			continue
		}
		taken++
		if again, e := Bytes(s); e != api.OK || !bytes.Equal(again, b[:k]) {
			t.Errorf("Take(%v): %v, %d, whose encoding is %v, %d", b, s, k, again, e)
		}
	}
	if taken < 1000 {
		t.Errorf("too few were decoded: %d", taken)
	}
}

// R1 and R2

func TestTakeLeavesTheBytes(t *testing.T) {
	whole := slices.Concat(plainBytes(300, 7), plainBytes(1<<40, 15), plainBytes(0, 2), plainBytes(1<<62, 16), bytes.Repeat([]byte{128}, 9))
	before := slices.Clone(whole)
	for from := range whole {
		for to := from; to <= len(whole); to++ {
			Take(whole[from:to])
			if !bytes.Equal(whole, before) {
				t.Fatalf("the bytes from %d to %d, or those beside them, were changed", from, to)
			}
		}
	}
}

func TestBytesAreNew(t *testing.T) {
	for _, s := range []api.Stamp{root, trash, {Time: 5, Rep: 2}, {Time: 300, Rep: 1}, {Time: api.MaxTime, Rep: 15}} {
		first, _ := Bytes(s)
		second, _ := Bytes(s)
		// All of the first, its spare capacity included.
		first = first[:cap(first)]
		for i := range first {
			first[i] = 99
		}
		third, _ := Bytes(s)
		want := plainBytes(s.Time, s.Rep)
		if !bytes.Equal(second, want) || !bytes.Equal(third, want) {
			t.Errorf("Bytes(%v): its results share memory: %v, %v", s, second, third)
		}
	}
}
