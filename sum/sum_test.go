package sum

import (
	"bytes"
	"hash/crc32"
	"slices"
	"testing"
)

// spread returns n bytes, the same in every run.
func spread(seed uint64, n int) []byte {
	out := make([]byte, n)
	for i := range out {
		seed = seed*6364136223846793005 + 1442695040888963407
		out[i] = byte(seed >> 40)
	}
	return out
}

// texts are of all short lengths, of zeros, of ones and of mixed bytes, and some of each kind that are longer.
func texts() [][]byte {
	out := [][]byte{nil, {}, []byte("123456789")}
	for n := range 20 {
		out = append(out, make([]byte, n), bytes.Repeat([]byte{0xff}, n), spread(uint64(n), n))
	}
	for _, n := range []int{63, 64, 65, 255, 256, 257} {
		out = append(out, make([]byte, n), bytes.Repeat([]byte{0xff}, n), spread(uint64(n), n))
	}
	return out
}

// starts are checksums to go on from.
func starts() []uint32 {
	return []uint32{0, 1, 7, 1 << 31, 1<<32 - 1, 1<<32 - 2, 1<<31 - 1, 0xcbf43926, 0xedb88320, 0x12477cdf, 0xdebb20e3}
}

func wantSum(t *testing.T, s uint32, b []byte, want uint32) {
	t.Helper()
	if got := Sum(s, b); got != want {
		t.Errorf("Sum(%#x, %q): %#x, want %#x", s, b, got, want)
	}
}

// P4.1

func TestSumOfKnownTexts(t *testing.T) {
	for _, c := range []struct {
		text string
		want uint32
	}{
		{"", 0},
		{"123456789", 0xcbf43926},
		{"a", 0xe8b7be43},
		{"abc", 0x352441c2},
		{"The quick brown fox jumps over the lazy dog", 0x414fa339},
		{"\x00", 0xd202ef8d},
		{"\x00\x00\x00\x00", 0x2144df1c},
		{"\xff", 0xff000000},
		{"\xff\xff\xff\xff", 0xffffffff},
	} {
		wantSum(t, 0, []byte(c.text), c.want)
	}
}

func TestSumOfNoBytes(t *testing.T) {
	for _, s := range starts() {
		wantSum(t, s, nil, s)
		wantSum(t, s, []byte{}, s)
	}
}

func TestSumOfEachByte(t *testing.T) {
	for _, s := range starts() {
		for n := range 256 {
			b := []byte{byte(n)}
			wantSum(t, s, b, crc32.Update(s, crc32.IEEETable, b))
		}
	}
}

func TestSumOfTexts(t *testing.T) {
	for _, s := range starts() {
		for _, b := range texts() {
			wantSum(t, s, b, crc32.Update(s, crc32.IEEETable, b))
		}
	}
}

func TestSumOfALongText(t *testing.T) {
	b := spread(5, 1<<20+3)
	if got, want := Sum(0, b), crc32.ChecksumIEEE(b); got != want {
		t.Errorf("%d bytes: %#x, want %#x", len(b), got, want)
	}
}

func TestSumIsTheSameAgain(t *testing.T) {
	b := spread(9, 100)
	first := Sum(0, b)
	Sum(77, b[3:50])
	wantSum(t, 0, b, first)
}

func TestSumLeavesTheBytes(t *testing.T) {
	whole := spread(3, 200)
	before := slices.Clone(whole)
	for _, s := range starts() {
		for end := range whole {
			Sum(s, whole[end/2:end])
			if !bytes.Equal(whole, before) {
				t.Fatalf("Sum of the bytes from %d to %d changed them, or those beside them", end/2, end)
			}
		}
	}
}

// P4.2

func TestSumOverEveryCut(t *testing.T) {
	for _, b := range texts() {
		all := crc32.ChecksumIEEE(b)
		for cut := range len(b) + 1 {
			wantSum(t, Sum(0, b[:cut]), b[cut:], all)
		}
	}
}

func TestSumOverTwoCuts(t *testing.T) {
	b := spread(11, 40)
	all := Sum(0, b)
	for first := range len(b) + 1 {
		for second := first; second <= len(b); second++ {
			wantSum(t, Sum(Sum(0, b[:first]), b[first:second]), b[second:], all)
		}
	}
}

func TestSumByteByByte(t *testing.T) {
	for _, s := range starts() {
		for _, b := range texts() {
			at := s
			for i := range b {
				at = Sum(at, b[i:i+1])
			}
			wantSum(t, s, b, at)
		}
	}
}

func TestOneBitChangesTheSum(t *testing.T) {
	for _, s := range starts() {
		for _, b := range texts() {
			oneBitChanges(t, s, b)
		}
	}
}

// oneBitChanges holds a text against those that differ from it in one bit.
func oneBitChanges(t *testing.T, s uint32, b []byte) {
	t.Helper()
	all := Sum(s, b)
	changed := slices.Clone(b)
	for i := range changed {
		for bit := range 8 {
			changed[i] ^= 1 << bit
			if Sum(s, changed) == all {
				t.Errorf("Sum(%#x, %q): the same with bit %d of byte %d changed", s, b, bit, i)
			}
			changed[i] ^= 1 << bit
		}
	}
}
