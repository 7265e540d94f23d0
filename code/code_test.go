package code

import (
	"bytes"
	"encoding/binary"
	"math"
	"math/big"
	"slices"
	"strings"
	"testing"

	"arras/api"
)

// spread returns n words, the same in every run.
func spread(seed uint64, n int) []uint64 {
	out := make([]uint64, n)
	for i := range out {
		seed = seed*6364136223846793005 + 1442695040888963407
		out[i] = seed>>17 ^ seed<<29
	}
	return out
}

// goodNums are numbers of all sizes, and those around each power of 2.
func goodNums() []int {
	out := []int{0, 1, 2, 300, 1<<62 - 2, 1<<62 - 1, 1 << 62}
	for bit := 1; bit < 62; bit++ {
		out = append(out, 1<<bit-1, 1<<bit, 1<<bit+1)
	}
	for i, word := range spread(1, 300) {
		out = append(out, int(word>>2)>>(i%62))
	}
	return out
}

// badNums are numbers that are not encoded.
func badNums() []int {
	return []int{-1, -2, -128, -300, math.MinInt, math.MinInt + 1, 1<<62 + 1, 1<<62 + 2, 1<<62 + 128, math.MaxInt - 1, math.MaxInt}
}

// goodTexts are of all short lengths, and of those at which the length's own encoding grows.
func goodTexts() []string {
	out := []string{"", "a", "\x00", "\xff", "\x80\x00", "äöü", "a\x00b"}
	for n := range 20 {
		out = append(out, mixed(n))
	}
	for _, n := range []int{126, 127, 128, 129, 16383, 16384, 16385, 1<<16 - 1, 1 << 16} {
		out = append(out, mixed(n), strings.Repeat("\x80", n))
	}
	return out
}

// mixed returns a text of n bytes, of all kinds.
func mixed(n int) string {
	var out []byte
	for _, word := range spread(uint64(n), n) {
		out = append(out, byte(word>>8))
	}
	return string(out)
}

// goodLists are of all short lengths, and of those at which the length's own encoding grows.
func goodLists() [][]int {
	all := goodNums()
	out := [][]int{nil, {}, {0}, {300}, {0, 0, 0}, {1 << 62, 0, 1 << 62}}
	for n := range 20 {
		out = append(out, all[n*7:n*7+n])
	}
	for _, n := range []int{127, 128, 129, 1<<10 - 1, 1 << 10} {
		out = append(out, make([]int, n), slices.Repeat([]int{1 << 62}, n), slices.Repeat(all, 3)[:n])
	}
	return out
}

// plainNum encodes by the library.
func plainNum(n int) []byte {
	return binary.AppendUvarint(nil, uint64(n))
}

func plainText(s string) []byte {
	return append(plainNum(len(s)), s...)
}

func plainNums(l []int) []byte {
	out := plainNum(len(l))
	for _, n := range l {
		out = append(out, plainNum(n)...)
	}
	return out
}

// plainTakeNum decodes by the document's words, one after another, with numbers of any size.
func plainTakeNum(b []byte) (int, int, api.Errno) {
	all := new(big.Int)
	for at := 0; ; at++ {
		if at >= len(b) {
			return 0, 0, api.ErrCut
		}
		if at == 8 && b[at]&128 != 0 {
			return 0, 0, api.ErrForm
		}
		group := big.NewInt(int64(b[at] & 127))
		all.Add(all, group.Lsh(group, uint(7*at)))
		if b[at]&128 != 0 {
			continue
		}
		if b[at] == 0 && at > 0 || all.Cmp(new(big.Int).Lsh(big.NewInt(1), 62)) > 0 {
			return 0, 0, api.ErrForm
		}
		return int(all.Int64()), at + 1, api.OK
	}
}

func wantTakeNum(t *testing.T, b []byte, n, k int, e api.Errno) {
	t.Helper()
	if gotN, gotK, gotE := TakeNum(b); gotN != n || gotK != k || gotE != e {
		t.Errorf("TakeNum(%v): %d, %d, %d, want %d, %d, %d", b, gotN, gotK, gotE, n, k, e)
	}
}

func wantTakeText(t *testing.T, b []byte, s string, k int, e api.Errno) {
	t.Helper()
	if gotS, gotK, gotE := TakeText(b); gotS != s || gotK != k || gotE != e {
		t.Errorf("TakeText of %d bytes, %.40q: %.40q, %d, %d, want %.40q, %d, %d", len(b), b, gotS, gotK, gotE, s, k, e)
	}
}

func wantTakeNums(t *testing.T, b []byte, l []int, k int, e api.Errno) {
	t.Helper()
	gotL, gotK, gotE := TakeNums(b)
	if !slices.Equal(gotL, l) || gotK != k || gotE != e {
		t.Errorf("TakeNums of %d bytes, %.40q: %d elements, %d, %d, want %d, %d, %d", len(b), b, len(gotL), gotK, gotE, len(l), k, e)
	}
}

// zeros returns n bytes that each have another one behind them.
func zeros(n int, then ...byte) []byte {
	return append(bytes.Repeat([]byte{128}, n), then...)
}

// P5.1

func TestNumOfKnownNumbers(t *testing.T) {
	for _, c := range []struct {
		n    int
		want []byte
	}{
		{0, []byte{0}},
		{1, []byte{1}},
		{127, []byte{127}},
		{128, []byte{128, 1}},
		{300, []byte{172, 2}},
		{16383, []byte{255, 127}},
		{16384, []byte{128, 128, 1}},
		{1<<62 - 1, []byte{255, 255, 255, 255, 255, 255, 255, 255, 63}},
		{1 << 62, []byte{128, 128, 128, 128, 128, 128, 128, 128, 64}},
	} {
		b, e := Num(c.n)
		if !bytes.Equal(b, c.want) || e != api.OK {
			t.Errorf("Num(%d): %v, %d, want %v", c.n, b, e, c.want)
		}
		wantTakeNum(t, c.want, c.n, len(c.want), api.OK)
	}
}

func TestNumIsThePlainOne(t *testing.T) {
	for _, n := range goodNums() {
		b, e := Num(n)
		if !bytes.Equal(b, plainNum(n)) || e != api.OK {
			t.Errorf("Num(%d): %v, %d, want %v", n, b, e, plainNum(n))
		}
	}
}

func TestNumRefuses(t *testing.T) {
	for _, n := range badNums() {
		if b, e := Num(n); b != nil || e != api.ErrForm {
			t.Errorf("Num(%d): %v, %d", n, b, e)
		}
	}
}

func TestTakeNumWithBytesBehind(t *testing.T) {
	for _, n := range goodNums() {
		b := plainNum(n)
		for _, tail := range []string{"", "\x00", "\x01", "\x80", "\xff\xff", "\x80\x00"} {
			wantTakeNum(t, append(slices.Clone(b), tail...), n, len(b), api.OK)
		}
	}
}

func TestTakeNumCutOff(t *testing.T) {
	wantTakeNum(t, nil, 0, 0, api.ErrCut)
	wantTakeNum(t, []byte{}, 0, 0, api.ErrCut)
	for _, n := range goodNums() {
		b := plainNum(n)
		for end := range b {
			wantTakeNum(t, b[:end], 0, 0, api.ErrCut)
		}
	}
	for n := range 9 {
		wantTakeNum(t, zeros(n), 0, 0, api.ErrCut)
		wantTakeNum(t, bytes.Repeat([]byte{255}, n), 0, 0, api.ErrCut)
	}
}

func TestTakeNumOfNineBytes(t *testing.T) {
	for _, ninth := range []byte{128, 129, 192, 255} {
		wantTakeNum(t, zeros(8, ninth), 0, 0, api.ErrForm)
		wantTakeNum(t, zeros(8, ninth, 0), 0, 0, api.ErrForm)
		wantTakeNum(t, zeros(8, ninth, 1), 0, 0, api.ErrForm)
		wantTakeNum(t, zeros(8, ninth, 255, 255, 1), 0, 0, api.ErrForm)
	}
	for ninth := byte(1); ninth <= 64; ninth++ {
		wantTakeNum(t, zeros(8, ninth), int(ninth)<<56, 9, api.OK)
		wantTakeNum(t, zeros(8, ninth, 200), int(ninth)<<56, 9, api.OK)
	}
	for ninth := byte(65); ninth <= 127; ninth++ {
		wantTakeNum(t, zeros(8, ninth), 0, 0, api.ErrForm)
	}
}

func TestTakeNumAboveTheGreatest(t *testing.T) {
	for at := range 8 {
		for bit := range 7 {
			b := zeros(8, 64)
			b[at] |= 1 << bit
			wantTakeNum(t, b, 0, 0, api.ErrForm)
		}
	}
	wantTakeNum(t, append(bytes.Repeat([]byte{255}, 8), 127), 0, 0, api.ErrForm)
}

func TestTakeNumWithALastZero(t *testing.T) {
	wantTakeNum(t, []byte{0}, 0, 1, api.OK)
	wantTakeNum(t, []byte{0, 0}, 0, 1, api.OK)
	for n := 1; n <= 8; n++ {
		wantTakeNum(t, zeros(n, 0), 0, 0, api.ErrForm)
		wantTakeNum(t, append(bytes.Repeat([]byte{255}, n), 0), 0, 0, api.ErrForm)
		wantTakeNum(t, zeros(n, 0, 5), 0, 0, api.ErrForm)
	}
}

func TestTakeNumOfEveryTwoBytes(t *testing.T) {
	for first := range 256 {
		for second := range 256 {
			b := []byte{byte(first), byte(second)}
			n, k, e := plainTakeNum(b)
			wantTakeNum(t, b, n, k, e)
		}
	}
}

func TestTakeNumOfMixedBytes(t *testing.T) {
	for i, word := range spread(7, 20000) {
		b := make([]byte, 0, 12)
		for at := range i % 12 {
			next := byte(word >> (5 * at))
			// Most bytes go on, so that long ones are met, too.
			if word>>(at+40)%8 != 0 {
				next |= 128
			}
			b = append(b, next)
		}
		n, k, e := plainTakeNum(b)
		wantTakeNum(t, b, n, k, e)
	}
}

// P5.2

func TestTextOfKnownTexts(t *testing.T) {
	for _, c := range []struct {
		s    string
		want string
	}{
		{"", "\x00"},
		{"a", "\x01a"},
		{"\x00\xff", "\x02\x00\xff"},
		{"ä", "\x02\xc3\xa4"},
		{strings.Repeat("x", 300), "\xac\x02" + strings.Repeat("x", 300)},
		{strings.Repeat("x", 1<<16), "\x80\x80\x04" + strings.Repeat("x", 1<<16)},
	} {
		b, e := Text(c.s)
		if string(b) != c.want || e != api.OK {
			t.Errorf("Text of %d bytes: %.40q, %d, want %.40q", len(c.s), b, e, c.want)
		}
		wantTakeText(t, []byte(c.want), c.s, len(c.want), api.OK)
	}
}

func TestTextIsThePlainOne(t *testing.T) {
	for _, s := range goodTexts() {
		b, e := Text(s)
		if !bytes.Equal(b, plainText(s)) || e != api.OK {
			t.Errorf("Text of %d bytes, %.40q: %.40q, %d", len(s), s, b, e)
		}
	}
}

func TestTextRefuses(t *testing.T) {
	for _, n := range []int{1<<16 + 1, 1<<16 + 2, 1 << 17, 1<<21 + 5} {
		if b, e := Text(strings.Repeat("x", n)); b != nil || e != api.ErrForm {
			t.Errorf("Text of %d bytes: %d bytes, %d", n, len(b), e)
		}
	}
}

func TestTakeTextWithBytesBehind(t *testing.T) {
	for _, s := range goodTexts() {
		b := plainText(s)
		for _, tail := range []string{"", "\x00", "\x80", "more"} {
			wantTakeText(t, append(slices.Clone(b), tail...), s, len(b), api.OK)
		}
	}
}

func TestTakeTextCutOff(t *testing.T) {
	for _, s := range goodTexts() {
		b := plainText(s)
		for end := range b {
			if end < 300 || end > len(b)-300 {
				wantTakeText(t, b[:end], "", 0, api.ErrCut)
			}
		}
	}
}

func TestTakeTextRefuses(t *testing.T) {
	tail := strings.Repeat("x", 1<<17)
	for _, c := range []struct {
		size []byte
		e    api.Errno
	}{
		{zeros(1), api.ErrCut},
		{zeros(8), api.ErrCut},
		{zeros(1, 0), api.ErrForm},
		{zeros(9), api.ErrForm},
		{zeros(8, 65), api.ErrForm},
		{plainNum(1<<16 + 1), api.ErrForm},
		{plainNum(1 << 17), api.ErrForm},
		{plainNum(1<<32 + 1), api.ErrForm},
		{plainNum(1 << 62), api.ErrForm},
	} {
		wantTakeText(t, c.size, "", 0, c.e)
		if c.e == api.ErrForm {
			// The length is refused ahead of what follows it, too little or enough.
			wantTakeText(t, append(c.size, tail[:10]...), "", 0, api.ErrForm)
			wantTakeText(t, append(c.size, tail...), "", 0, api.ErrForm)
		}
	}
	wantTakeText(t, append(plainNum(1<<16), tail[:1<<16-1]...), "", 0, api.ErrCut)
}

func TestNumsOfKnownLists(t *testing.T) {
	for _, c := range []struct {
		l    []int
		want []byte
	}{
		{nil, []byte{0}},
		{[]int{5}, []byte{1, 5}},
		{[]int{0, 300, 127, 128}, []byte{4, 0, 172, 2, 127, 128, 1}},
		{[]int{1 << 62}, append([]byte{1}, zeros(8, 64)...)},
		{make([]int, 1<<10), append([]byte{128, 8}, make([]byte, 1<<10)...)},
	} {
		b, e := Nums(c.l)
		if !bytes.Equal(b, c.want) || e != api.OK {
			t.Errorf("Nums of %d elements: %.40q, %d, want %.40q", len(c.l), b, e, c.want)
		}
		wantTakeNums(t, c.want, c.l, len(c.want), api.OK)
	}
}

func TestNumsIsThePlainOne(t *testing.T) {
	for _, l := range goodLists() {
		b, e := Nums(l)
		if !bytes.Equal(b, plainNums(l)) || e != api.OK {
			t.Errorf("Nums of %d elements: %.40q, %d", len(l), b, e)
		}
	}
}

func TestNumsRefuses(t *testing.T) {
	for _, n := range []int{1<<10 + 1, 1<<10 + 2, 1 << 11, 1 << 17} {
		if b, e := Nums(make([]int, n)); b != nil || e != api.ErrForm {
			t.Errorf("Nums of %d elements: %d bytes, %d", n, len(b), e)
		}
	}
	for _, bad := range badNums() {
		for at := range 4 {
			l := []int{1, 2, 300, 4}
			l[at] = bad
			if b, e := Nums(l); b != nil || e != api.ErrForm {
				t.Errorf("Nums(%v): %v, %d", l, b, e)
			}
		}
	}
	l := make([]int, 1<<10)
	l[1<<10-1] = -1
	if b, e := Nums(l); b != nil || e != api.ErrForm {
		t.Errorf("Nums of a list with a bad last one: %d bytes, %d", len(b), e)
	}
}

func TestTakeNumsWithBytesBehind(t *testing.T) {
	for _, l := range goodLists() {
		b := plainNums(l)
		for _, tail := range []string{"", "\x00", "\x80", "\x80\x00", "more"} {
			wantTakeNums(t, append(slices.Clone(b), tail...), l, len(b), api.OK)
		}
	}
}

func TestTakeNumsCutOff(t *testing.T) {
	for _, l := range goodLists() {
		b := plainNums(l)
		for end := range b {
			if end < 300 || end > len(b)-300 {
				wantTakeNums(t, b[:end], nil, 0, api.ErrCut)
			}
		}
	}
}

func TestTakeNumsRefuses(t *testing.T) {
	tail := make([]byte, 1<<11)
	for _, c := range []struct {
		count []byte
		e     api.Errno
	}{
		{zeros(1), api.ErrCut},
		{zeros(8), api.ErrCut},
		{zeros(1, 0), api.ErrForm},
		{zeros(9), api.ErrForm},
		{zeros(8, 65), api.ErrForm},
		{plainNum(1<<10 + 1), api.ErrForm},
		{plainNum(1 << 11), api.ErrForm},
		{plainNum(1<<32 + 1), api.ErrForm},
		{plainNum(1 << 62), api.ErrForm},
	} {
		wantTakeNums(t, c.count, nil, 0, c.e)
		if c.e == api.ErrForm {
			wantTakeNums(t, append(c.count, tail[:10]...), nil, 0, api.ErrForm)
			wantTakeNums(t, append(c.count, tail...), nil, 0, api.ErrForm)
			wantTakeNums(t, append(c.count, 128), nil, 0, api.ErrForm)
		}
	}
	wantTakeNums(t, append(plainNum(1<<10), tail[:1<<10-1]...), nil, 0, api.ErrCut)
}

func TestTakeNumsTellsTheFirstError(t *testing.T) {
	for _, c := range []struct {
		b []byte
		e api.Errno
	}{
		{[]byte{3, 1, 128, 0}, api.ErrForm},      // then cut off
		{[]byte{3, 1, 128, 0, 128}, api.ErrForm}, // then cut off inside
		{[]byte{2, 128, 0, 7}, api.ErrForm},
		{append([]byte{2, 7}, zeros(9, 1)...), api.ErrForm},
		{append([]byte{2, 7}, zeros(8, 65)...), api.ErrForm},
		{append([]byte{2, 7}, zeros(8)...), api.ErrCut},
		{[]byte{2, 7}, api.ErrCut},
		{[]byte{2, 7, 128}, api.ErrCut},
	} {
		wantTakeNums(t, c.b, nil, 0, c.e)
	}
}

// P5.3

func TestNumComesBack(t *testing.T) {
	for _, n := range goodNums() {
		b, e := Num(n)
		if e != api.OK {
			t.Errorf("Num(%d): %d", n, e)
		}
		wantTakeNum(t, b, n, len(b), api.OK)
	}
}

func TestTextComesBack(t *testing.T) {
	for _, s := range goodTexts() {
		b, e := Text(s)
		if e != api.OK {
			t.Errorf("Text of %d bytes: %d", len(s), e)
		}
		wantTakeText(t, b, s, len(b), api.OK)
	}
}

func TestNumsComeBack(t *testing.T) {
	for _, l := range goodLists() {
		b, e := Nums(l)
		if e != api.OK {
			t.Errorf("Nums of %d elements: %d", len(l), e)
		}
		wantTakeNums(t, b, l, len(b), api.OK)
	}
}

// mixedBytes are short, and mostly small or going on: many of them are encodings.
func mixedBytes() [][]byte {
	var out [][]byte
	for i, word := range spread(3, 20000) {
		b := make([]byte, 0, 12)
		for at := range i % 12 {
			b = append(b, []byte{0, 1, 2, 3, 4, 127, 128, 255}[word>>(3*at)%8])
		}
		out = append(out, b)
	}
	return out
}

func TestWhatIsDecodedWasEncodedSo(t *testing.T) {
	nums, texts, lists := 0, 0, 0
	for _, b := range mixedBytes() {
		if n, k, e := TakeNum(b); e == api.OK {
			nums++
			if again, _ := Num(n); !bytes.Equal(again, b[:k]) {
				t.Errorf("TakeNum(%v): %d, %d, whose encoding is %v", b, n, k, again)
			}
		}
		if s, k, e := TakeText(b); e == api.OK {
			texts++
			if again, _ := Text(s); !bytes.Equal(again, b[:k]) {
				t.Errorf("TakeText(%v): %q, %d, whose encoding is %v", b, s, k, again)
			}
		}
		if l, k, e := TakeNums(b); e == api.OK {
			lists++
			if again, _ := Nums(l); !bytes.Equal(again, b[:k]) {
				t.Errorf("TakeNums(%v): %v, %d, whose encoding is %v", b, l, k, again)
			}
		}
	}
	if nums < 100 || texts < 100 || lists < 100 {
		t.Errorf("too few were decoded: %d numbers, %d texts, %d lists", nums, texts, lists)
	}
}

// R1 and R2

func TestDecodingLeavesTheBytes(t *testing.T) {
	whole := append(append(plainNums([]int{300, 5, 1 << 62}), plainText("texts")...), zeros(9)...)
	before := slices.Clone(whole)
	for from := range whole {
		for to := from; to <= len(whole); to++ {
			TakeNum(whole[from:to])
			TakeText(whole[from:to])
			TakeNums(whole[from:to])
			if !bytes.Equal(whole, before) {
				t.Fatalf("the bytes from %d to %d, or those beside them, were changed", from, to)
			}
		}
	}
}

func TestNumsLeavesTheList(t *testing.T) {
	whole := []int{1, 300, 1 << 62, -1, 5, 9}
	before := slices.Clone(whole)
	for from := range whole {
		for to := from; to <= len(whole); to++ {
			Nums(whole[from:to])
			if !slices.Equal(whole, before) {
				t.Fatalf("the elements from %d to %d, or those beside them, were changed", from, to)
			}
		}
	}
}

// soil writes into all of a result, its spare capacity included.
func soil[T byte | int](l []T) {
	l = l[:cap(l)]
	for i := range l {
		l[i] = 99
	}
}

func TestEncodingsAreNew(t *testing.T) {
	list := []int{1, 300, 7}
	calls := []func() []byte{
		func() []byte { b, _ := Num(300); return b },
		func() []byte { b, _ := Text("a text"); return b },
		func() []byte { b, _ := Text(""); return b },
		func() []byte { b, _ := Nums(list); return b },
		func() []byte { b, _ := Nums(nil); return b },
	}
	for i, call := range calls {
		first, second := call(), call()
		want := slices.Clone(second)
		soil(first)
		if !bytes.Equal(second, want) || !bytes.Equal(call(), want) {
			t.Errorf("call %d: its results share memory", i)
		}
	}
	if !slices.Equal(list, []int{1, 300, 7}) {
		t.Errorf("the list was changed: %v", list)
	}
}

func TestDecodedThingsAreNew(t *testing.T) {
	b := plainNums([]int{1, 300, 7})
	first, _, _ := TakeNums(b)
	second, _, _ := TakeNums(b)
	soil(first)
	if !slices.Equal(second, []int{1, 300, 7}) {
		t.Errorf("two lists share memory: %v", second)
	}
	soil(b)
	if !slices.Equal(second, []int{1, 300, 7}) {
		t.Errorf("the list shares memory with the bytes: %v", second)
	}
	b = plainText("a text")
	s, _, _ := TakeText(b)
	soil(b)
	if s != "a text" {
		t.Errorf("the text shares memory with the bytes: %q", s)
	}
}

func TestNilIsAsGoodAsEmpty(t *testing.T) {
	fromNil, e := Nums(nil)
	fromEmpty, f := Nums([]int{})
	if !bytes.Equal(fromNil, fromEmpty) || e != f {
		t.Errorf("Nums of nil: %v, %d; of an empty list: %v, %d", fromNil, e, fromEmpty, f)
	}
	for _, b := range [][]byte{nil, {}} {
		wantTakeNum(t, b, 0, 0, api.ErrCut)
		wantTakeText(t, b, "", 0, api.ErrCut)
		wantTakeNums(t, b, nil, 0, api.ErrCut)
	}
}
