package disk

import (
	"bytes"
	"math"
	"slices"
	"strings"
	"testing"

	"arras/api"
)

// spread returns n words, the same in every run.
func spread(seed uint64, n int) []uint64 {
	out := make([]uint64, n)
	for i := range out {
		seed = seed*6364136223846793005 + 1442695040888963407
		out[i] = seed>>17 ^ seed<<29
	}
	return out
}

// made returns a disk with such files.
func made(t *testing.T, f ...string) *Disk {
	t.Helper()
	var in [][]byte
	for _, s := range f {
		in = append(in, []byte(s))
	}
	d, e := New(in)
	if d == nil || e != api.OK {
		t.Fatalf("New(%q) is %v", f, e)
	}
	return d
}

// wantFiles holds what is there against want, by Size and by Read of all of it.
func wantFiles(t *testing.T, d *Disk, want ...string) {
	t.Helper()
	for n, w := range want {
		wantSize(t, d, n, len(w), api.OK)
		wantRead(t, d, n, 0, len(w), w, api.OK)
	}
}

func wantSize(t *testing.T, d *Disk, n, size int, e api.Errno) {
	t.Helper()
	if got, ge := d.Size(n); got != size || ge != e {
		t.Errorf("Size(%d) is %d, %v, want %d, %v", n, got, ge, size, e)
	}
}

func wantRead(t *testing.T, d *Disk, n, at, k int, want string, e api.Errno) {
	t.Helper()
	got, ge := d.Read(n, at, k)
	if string(got) != want || ge != e {
		t.Errorf("Read(%d, %d, %d) is %q, %v, want %q, %v", n, at, k, brief(got), ge, brief([]byte(want)), e)
	}
	if ge != api.OK && got != nil {
		t.Errorf("Read(%d, %d, %d) has bytes beside %v", n, at, k, ge)
	}
}

func wantWrite(t *testing.T, d *Disk, n, at int, b string, e api.Errno) {
	t.Helper()
	if got := d.Write(n, at, []byte(b)); got != e {
		t.Errorf("Write(%d, %d, %q) is %v, want %v", n, at, brief([]byte(b)), got, e)
	}
}

func wantCut(t *testing.T, d *Disk, n, k int, e api.Errno) {
	t.Helper()
	if got := d.Cut(n, k); got != e {
		t.Errorf("Cut(%d, %d) is %v, want %v", n, k, got, e)
	}
}

func wantSync(t *testing.T, d *Disk, n int, e api.Errno) {
	t.Helper()
	if got := d.Sync(n); got != e {
		t.Errorf("Sync(%d) is %v, want %v", n, got, e)
	}
}

func wantCrash(t *testing.T, d *Disk, picks []int, want ...string) {
	t.Helper()
	got := d.Crash(picks)
	if len(got) != 3 {
		t.Fatalf("Crash(%v) returns %d files", picks, len(got))
	}
	for n, w := range want {
		if string(got[n]) != w {
			t.Errorf("Crash(%v) returns for file %d %q, want %q", picks, n, brief(got[n]), brief([]byte(w)))
		}
	}
}

// wantOff holds that every call, whatever it is handed, returns ErrPower.
func wantOff(t *testing.T, d *Disk) {
	t.Helper()
	for _, n := range append(wrongFiles(), 0, 1, 2) {
		for _, at := range []int{0, -1, 1, math.MaxInt, math.MinInt} {
			wantSize(t, d, n, 0, api.ErrPower)
			wantRead(t, d, n, at, at, "", api.ErrPower)
			wantRead(t, d, n, at, -1, "", api.ErrPower)
			wantWrite(t, d, n, at, "x", api.ErrPower)
			wantCut(t, d, n, at, api.ErrPower)
			wantSync(t, d, n, api.ErrPower)
		}
	}
}

// brief returns b without what no report needs.
func brief(b []byte) []byte {
	return b[:min(len(b), 40)]
}

// wrongFiles are the numbers of no file.
func wrongFiles() []int {
	return []int{-1, 3, 4, -3, math.MinInt, math.MaxInt}
}

// P12.1

func TestNewOfNoFiles(t *testing.T) {
	for _, f := range [][][]byte{nil, {}, make([][]byte, 0, 3), {nil, nil, nil}, {{}, nil, {}}} {
		d, e := New(f)
		if d == nil || e != api.OK {
			t.Fatalf("New(%v) is %v", f, e)
		}
		wantFiles(t, d, "", "", "")
		wantCrash(t, d, []int{5, 5, 5, 5, 5, 5}, "", "", "")
	}
}

func TestNewOfThreeFiles(t *testing.T) {
	d := made(t, "abc", "", "z\x00")
	wantFiles(t, d, "abc", "", "z\x00")
	wantCrash(t, d, nil, "abc", "", "z\x00")
}

func TestNewOfAnotherNumberOfFiles(t *testing.T) {
	for _, n := range []int{1, 2, 4, 5, 6, 300} {
		f := make([][]byte, n)
		for i := range f {
			f[i] = []byte("abc")
		}
		if d, e := New(f); d != nil || e != api.ErrForm {
			t.Errorf("New of %d files is %v, %v", n, d, e)
		}
	}
}

func TestNewOfLongFiles(t *testing.T) {
	for n := range 3 {
		f := make([][]byte, 3)
		f[n] = bytes.Repeat([]byte("k"), api.MaxLog)
		d, e := New(f)
		if d == nil || e != api.OK {
			t.Fatalf("New with file %d of MaxLog bytes is %v", n, e)
		}
		wantSize(t, d, n, api.MaxLog, api.OK)
		wantRead(t, d, n, api.MaxLog-2, 2, "kk", api.OK)
		f[n] = append(f[n], 'k')
		if d, e := New(f); d != nil || e != api.ErrForm {
			t.Errorf("New with file %d of one byte more than MaxLog is %v, %v", n, d, e)
		}
	}
	full := bytes.Repeat([]byte("k"), api.MaxLog)
	if d, e := New([][]byte{full, full, full}); d == nil || e != api.OK {
		t.Errorf("New of three files of MaxLog bytes is %v", e)
	}
}

func TestSizeOfEachFile(t *testing.T) {
	d := made(t, "abc", "", "z")
	for n, size := range []int{3, 0, 1} {
		wantSize(t, d, n, size, api.OK)
	}
	for _, n := range wrongFiles() {
		wantSize(t, d, n, 0, api.ErrForm)
	}
}

func TestReadOfEachPart(t *testing.T) {
	text := "abcdef"
	d := made(t, "other", text, "another")
	for at := range len(text) + 1 {
		for k := range len(text) - at + 1 {
			wantRead(t, d, 1, at, k, text[at:at+k], api.OK)
		}
		for more := 1; more < 9; more++ {
			wantRead(t, d, 1, at, len(text)-at+more, "", api.ErrLimit)
		}
		wantRead(t, d, 1, at, math.MaxInt, "", api.ErrLimit)
		wantRead(t, d, 1, at, math.MaxInt-at, "", api.ErrLimit)
	}
	wantRead(t, d, 0, 4, 1, "r", api.OK)
	wantRead(t, d, 2, 5, 2, "er", api.OK)
}

func TestReadBeyondTheFile(t *testing.T) {
	d := made(t, "abc", "", "abcd")
	for _, k := range []int{0, 1, 3, math.MaxInt} {
		for _, at := range []int{-1, -3, math.MinInt, 4, 5, math.MaxInt} {
			wantRead(t, d, 0, at, k, "", api.ErrLimit)
		}
	}
	wantRead(t, d, 1, 0, 0, "", api.OK)
	wantRead(t, d, 1, 0, 1, "", api.ErrLimit)
	wantRead(t, d, 1, 1, 0, "", api.ErrLimit)
	// One from behind the file and one from ahead of it: their sum is within.
	wantRead(t, d, 0, -1, 2, "", api.ErrLimit)
	wantRead(t, d, 0, math.MinInt, math.MaxInt, "", api.ErrLimit)
}

func TestReadOfAWrongForm(t *testing.T) {
	d := made(t, "abc", "abc", "abc")
	for _, at := range []int{0, 3, 4, -1, math.MinInt, math.MaxInt} {
		for _, n := range wrongFiles() {
			for _, k := range []int{0, 1, 4, -1, math.MinInt, math.MaxInt} {
				wantRead(t, d, n, at, k, "", api.ErrForm)
			}
		}
		for n := range 3 {
			wantRead(t, d, n, at, -1, "", api.ErrForm)
			wantRead(t, d, n, at, -4, "", api.ErrForm)
			wantRead(t, d, n, at, math.MinInt, "", api.ErrForm)
		}
	}
}

// P12.2

func TestWriteAtEachPlace(t *testing.T) {
	for n := range 3 {
		for _, c := range []struct {
			at      int
			b, want string
		}{
			{0, "X", "Xbcdef"}, {0, "XYZ", "XYZdef"}, {0, "UVWXYZ", "UVWXYZ"}, {0, "TUVWXYZ", "TUVWXYZ"},
			{2, "X", "abXdef"}, {2, "WXYZ", "abWXYZ"}, {2, "VWXYZ", "abVWXYZ"},
			{5, "X", "abcdeX"}, {5, "XY", "abcdeXY"}, {6, "X", "abcdefX"}, {6, "UVWXYZ12", "abcdefUVWXYZ12"},
			{0, "", "abcdef"}, {3, "", "abcdef"}, {6, "", "abcdef"},
		} {
			files := []string{"zero", "one", "two"}
			files[n] = "abcdef"
			d := made(t, files...)
			wantWrite(t, d, n, c.at, c.b, api.OK)
			files[n] = c.want
			wantFiles(t, d, files...)
		}
	}
}

func TestWriteBehindTheEnd(t *testing.T) {
	d := made(t, "abc", "", "")
	for _, b := range []string{"", "x", "xyz"} {
		for _, at := range []int{4, 5, 1 << 30, math.MaxInt, -1, -3, math.MinInt} {
			wantWrite(t, d, 0, at, b, api.ErrLimit)
		}
		wantWrite(t, d, 1, 1, b, api.ErrLimit)
	}
	wantFiles(t, d, "abc", "", "")
}

func TestWriteUpToMaxLog(t *testing.T) {
	full := strings.Repeat("f", api.MaxLog)
	d := made(t, "", "abc", full)
	wantWrite(t, d, 0, 0, full+"f", api.ErrLimit)
	wantFiles(t, d, "")
	wantWrite(t, d, 0, 0, full, api.OK)
	wantWrite(t, d, 1, 3, full[:api.MaxLog-2], api.ErrLimit)
	wantWrite(t, d, 1, 1, full, api.ErrLimit)
	wantFiles(t, d, full, "abc")
	wantWrite(t, d, 1, 3, full[:api.MaxLog-3], api.OK)
	wantFiles(t, d, full, "abc"+full[3:], full)
	for n := range 3 {
		wantWrite(t, d, n, api.MaxLog, "", api.OK)
		wantWrite(t, d, n, api.MaxLog, "x", api.ErrLimit)
		wantWrite(t, d, n, api.MaxLog-1, "xy", api.ErrLimit)
		wantWrite(t, d, n, api.MaxLog+1, "", api.ErrLimit)
		wantWrite(t, d, n, api.MaxLog-1, "x", api.OK)
		wantSize(t, d, n, api.MaxLog, api.OK)
		wantRead(t, d, n, api.MaxLog-2, 2, "fx", api.OK)
	}
	wantWrite(t, d, 0, 0, strings.Repeat("g", 3*api.MaxLog), api.ErrLimit)
}

func TestCutToEachLength(t *testing.T) {
	text := "abcdef"
	for n := range 3 {
		for k := range len(text) + 1 {
			files := []string{"zero", "one", "two"}
			files[n] = text
			d := made(t, files...)
			wantCut(t, d, n, k, api.OK)
			files[n] = text[:k]
			wantFiles(t, d, files...)
			wantRead(t, d, n, k, 1, "", api.ErrLimit)
			wantCut(t, d, n, k+1, api.ErrLimit)
			wantWrite(t, d, n, k+1, "", api.ErrLimit)
			// What was cut off does not come back.
			wantWrite(t, d, n, k, "X", api.OK)
			files[n] = text[:k] + "X"
			wantFiles(t, d, files...)
		}
	}
}

func TestCutToAWrongLength(t *testing.T) {
	d := made(t, "abc", "", "")
	for _, k := range []int{4, 5, api.MaxLog, math.MaxInt, -1, -2, math.MinInt} {
		wantCut(t, d, 0, k, api.ErrLimit)
		wantCut(t, d, 1, k, api.ErrLimit)
	}
	wantCut(t, d, 1, 1, api.ErrLimit)
	wantCut(t, d, 1, 0, api.OK)
	wantFiles(t, d, "abc", "", "")
}

func TestSyncOfEachFile(t *testing.T) {
	for n := range 3 {
		d := made(t, "zero", "one", "two")
		for i := range 3 {
			wantWrite(t, d, i, 0, "NEW", api.OK)
			wantCut(t, d, i, 2, api.OK)
		}
		wantSync(t, d, n, api.OK)
		wantFiles(t, d, "NE", "NE", "NE")
		found := []string{"zero", "one", "two"}
		found[n] = "NE"
		wantCrash(t, d, nil, found...)
	}
}

func TestChangesOfAWrongFile(t *testing.T) {
	d := made(t, "abc", "abc", "abc")
	long := strings.Repeat("x", api.MaxLog+1)
	for _, n := range wrongFiles() {
		for _, at := range []int{0, 3, 4, -1, math.MinInt, math.MaxInt} {
			wantWrite(t, d, n, at, "", api.ErrForm)
			wantWrite(t, d, n, at, "x", api.ErrForm)
			wantWrite(t, d, n, at, long, api.ErrForm)
			wantCut(t, d, n, at, api.ErrForm)
		}
		wantSync(t, d, n, api.ErrForm)
	}
	wantFiles(t, d, "abc", "abc", "abc")
}

// A change that is refused is none that a crash could find: the pick counts those that were made.
func TestARefusedChangeIsNone(t *testing.T) {
	d := made(t, "abc", "", "")
	wantWrite(t, d, 0, 4, "x", api.ErrLimit)
	wantCut(t, d, 0, 4, api.ErrLimit)
	wantWrite(t, d, 3, 0, "x", api.ErrForm)
	wantWrite(t, d, 0, 3, "d", api.OK)
	wantCut(t, d, 0, -1, api.ErrLimit)
	wantSync(t, d, 3, api.ErrForm)
	wantSync(t, d, -1, api.ErrForm)
	wantCrash(t, d, []int{1}, "abcd", "", "")
	wantCrash(t, d, []int{2}, "abc", "", "")
}

// P12.3

// fiveCalls are of the three kinds, in turn made and refused.
func fiveCalls(d *Disk) []api.Errno {
	return []api.Errno{d.Write(0, 0, []byte("a")), d.Cut(0, 9), d.Sync(7), d.Sync(0), d.Cut(0, 0)}
}

func TestOffAtEachCall(t *testing.T) {
	for _, n := range []int{math.MinInt, -7, -1, 0, 1, 2, 3, 4, 5, 6, 7, math.MaxInt} {
		d := made(t)
		d.Off(n)
		want := []api.Errno{api.OK, api.ErrLimit, api.ErrForm, api.OK, api.OK}
		for i := range want {
			if i+1 >= n {
				want[i] = api.ErrPower
			}
		}
		if got := fiveCalls(d); !slices.Equal(got, want) {
			t.Errorf("after Off(%d) the calls return %v, want %v", n, got, want)
		}
		if n <= len(want) {
			wantOff(t, d)
		} else {
			wantFiles(t, d, "", "", "")
		}
	}
}

func TestOffAtOnce(t *testing.T) {
	for _, n := range []int{0, -1, math.MinInt} {
		d := made(t, "abc", "", "")
		d.Off(n)
		wantOff(t, d)
		wantCrash(t, d, nil, "abc", "", "")
	}
}

// The power is on until the call at which it fails: what is there can be read till then.
func TestOffLeavesThePowerOnTillThen(t *testing.T) {
	d := made(t, "abc", "", "")
	d.Off(3)
	for range 9 {
		wantFiles(t, d, "abc", "", "")
		wantSize(t, d, 3, 0, api.ErrForm)
		wantRead(t, d, 0, 9, 0, "", api.ErrLimit)
	}
	wantWrite(t, d, 0, 3, "d", api.OK)
	wantWrite(t, d, 1, 0, "e", api.OK)
	wantFiles(t, d, "abcd", "e", "")
	wantSync(t, d, 0, api.ErrPower)
	wantOff(t, d)
	wantCrash(t, d, []int{1, 1}, "abcd", "e", "")
	wantCrash(t, d, []int{0}, "abc", "", "")
}

// The call at which the power fails does nothing.
func TestTheCallAtWhichThePowerFails(t *testing.T) {
	for i, call := range []func(d *Disk) api.Errno{
		func(d *Disk) api.Errno { return d.Write(0, 0, []byte("XYZ")) },
		func(d *Disk) api.Errno { return d.Cut(0, 0) },
		func(d *Disk) api.Errno { return d.Sync(0) },
		func(d *Disk) api.Errno { return d.Write(9, -1, nil) },
		func(d *Disk) api.Errno { return d.Cut(0, 99) },
		func(d *Disk) api.Errno { return d.Sync(-1) },
	} {
		d := made(t, "abc", "", "")
		wantWrite(t, d, 0, 3, "d", api.OK)
		d.Off(1)
		wantFiles(t, d, "abcd", "", "")
		if e := call(d); e != api.ErrPower {
			t.Errorf("call %d returns %v", i, e)
		}
		wantOff(t, d)
		wantCrash(t, d, []int{1}, "abcd", "", "")
		wantCrash(t, d, []int{2}, "abc", "", "")
	}
}

func TestALaterOffReplacesAnEarlierOne(t *testing.T) {
	d := made(t)
	d.Off(1)
	d.Off(3)
	wantSync(t, d, 0, api.OK)
	wantSync(t, d, 0, api.OK)
	d.Off(2)
	wantSync(t, d, 0, api.OK)
	d.Off(math.MaxInt)
	for range 9 {
		wantSync(t, d, 0, api.OK)
	}
	d.Off(5)
	d.Off(1)
	wantSync(t, d, 0, api.ErrPower)
	wantOff(t, d)

	d = made(t)
	d.Off(9)
	d.Off(0)
	wantOff(t, d)
}

// Off counts from its own call on.
func TestOffCountsFromNowOn(t *testing.T) {
	for earlier := range 7 {
		d := made(t)
		for range earlier {
			wantSync(t, d, 0, api.OK)
		}
		d.Off(2)
		wantSync(t, d, 1, api.OK)
		wantSync(t, d, 1, api.ErrPower)
	}
}

func TestNothingTurnsThePowerOnAgain(t *testing.T) {
	for _, off := range []func(d *Disk){
		func(d *Disk) { d.Off(0) },
		func(d *Disk) { d.Off(1); d.Sync(0) },
		func(d *Disk) { d.Crash(nil) },
		func(d *Disk) { d.Off(5); d.Crash(nil) },
	} {
		for _, n := range []int{-1, 0, 1, 2, 9, math.MaxInt} {
			d := made(t, "abc", "", "")
			off(d)
			d.Off(n)
			wantOff(t, d)
			wantCrash(t, d, nil, "abc", "", "")
			wantOff(t, d)
		}
	}
}

func TestCrashOfTheExample(t *testing.T) {
	d := made(t)
	wantWrite(t, d, 0, 0, "abc", api.OK)
	wantCrash(t, d, []int{0, 2}, "ab", "", "")
	wantOff(t, d)
}

// changes returns a disk of which a crash finds, behind a Sync, a Write, a Cut, a Write of no bytes and a Write into the middle, and changes of a further file among them.
func changes(t *testing.T) *Disk {
	t.Helper()
	d := made(t, "a", "", "z")
	wantWrite(t, d, 0, 1, "bc", api.OK)
	wantSync(t, d, 0, api.OK)
	wantWrite(t, d, 0, 3, "def", api.OK)
	wantWrite(t, d, 2, 0, "new", api.OK)
	wantCut(t, d, 0, 4, api.OK)
	wantWrite(t, d, 0, 4, "", api.OK)
	wantCut(t, d, 2, 1, api.OK)
	wantWrite(t, d, 0, 1, "XY", api.OK)
	return d
}

func TestCrashWithEachPick(t *testing.T) {
	for _, c := range []struct {
		picks []int
		want  []string
	}{
		{nil, []string{"abc", "", "z"}},
		{[]int{}, []string{"abc", "", "z"}},
		{[]int{0}, []string{"abc", "", "z"}},
		{[]int{0, 1}, []string{"abcd", "", "z"}},
		{[]int{0, 2}, []string{"abcde", "", "z"}},
		{[]int{0, 3}, []string{"abcdef", "", "z"}},
		{[]int{0, 4}, []string{"abc", "", "z"}},
		{[]int{0, -1}, []string{"abcdef", "", "z"}},
		{[]int{0, -3}, []string{"abcd", "", "z"}},
		{[]int{0, -4}, []string{"abc", "", "z"}},
		// The next change is a Cut: no second pick is used, so what follows is the pick of file 1, and of file 2.
		{[]int{1}, []string{"abcdef", "", "z"}},
		{[]int{1, 3}, []string{"abcdef", "", "z"}},
		{[]int{1, 3, 1}, []string{"abcdef", "", "new"}},
		{[]int{1, 3, 2}, []string{"abcdef", "", "n"}},
		{[]int{1, 3, 3}, []string{"abcdef", "", "z"}},
		{[]int{1, 3, 0, 1}, []string{"abcdef", "", "n"}},
		{[]int{1, 3, 0, 2}, []string{"abcdef", "", "ne"}},
		{[]int{1, 3, 0, 3}, []string{"abcdef", "", "new"}},
		// The next change is a Write of no bytes: a second pick is used, and is always 0.
		{[]int{2, 7, 0, 1}, []string{"abcd", "", "new"}},
		{[]int{2, 7, 1, 0, 2}, []string{"abcd", "", "ne"}},
		{[]int{2, -7, 1, 2}, []string{"abcd", "", "n"}},
		{[]int{3, 0, 0, 1}, []string{"abcd", "", "new"}},
		{[]int{3, 1, 0, 1}, []string{"aXcd", "", "new"}},
		{[]int{3, 2, 0, 1}, []string{"aXYd", "", "new"}},
		{[]int{3, 3, 0, 1}, []string{"abcd", "", "new"}},
		// All changes: there is no next one.
		{[]int{4, 0, 1}, []string{"aXYd", "", "new"}},
		{[]int{4, 0, 2}, []string{"aXYd", "", "n"}},
		{[]int{5, 1, 0, 1}, []string{"abcd", "", "new"}},
		{[]int{9, 0, 1}, []string{"aXYd", "", "new"}},
		{[]int{-1, 0, -2}, []string{"aXYd", "", "new"}},
		{[]int{-1, 0, -1}, []string{"aXYd", "", "n"}},
		{[]int{-5, 2, 0, 0, 1}, []string{"abcde", "", "n"}},
		{[]int{-4, 0, -3, -2}, []string{"abcdef", "", "ne"}},
		// More picks than are used.
		{[]int{4, 0, 2, 1, 1, 1, 1, 1}, []string{"aXYd", "", "n"}},
	} {
		d := changes(t)
		wantFiles(t, d, "aXYd", "", "n")
		wantCrash(t, d, c.picks, c.want...)
		wantOff(t, d)
	}
}

func TestCrashWithTheLargestPicks(t *testing.T) {
	for _, p := range []int{math.MaxInt, math.MaxInt - 1, math.MaxInt - 4, math.MinInt, math.MinInt + 1, math.MinInt + 3} {
		for _, q := range []int{math.MaxInt, math.MinInt, math.MinInt + 1} {
			m := newModel("a", "", "z")
			d := changes(t)
			m.write(0, 1, "bc")
			m.sync(0)
			m.write(0, 3, "def")
			m.write(2, 0, "new")
			m.cut(0, 4)
			m.write(0, 4, "")
			m.cut(2, 1)
			m.write(0, 1, "XY")
			picks := []int{p, q, q, p, q}
			wantCrash(t, d, picks, m.crash(picks)...)
		}
	}
}

// A Cut to the length that a file has, and a Write of what is there already, are changes like others.
func TestChangesThatChangeNothing(t *testing.T) {
	d := made(t, "abc", "", "")
	wantCut(t, d, 0, 3, api.OK)
	wantWrite(t, d, 0, 0, "abc", api.OK)
	wantWrite(t, d, 0, 0, "", api.OK)
	wantWrite(t, d, 0, 3, "d", api.OK)
	wantCrash(t, d, []int{4}, "abcd", "", "")
	wantCrash(t, d, []int{3, 1}, "abcd", "", "")
	wantCrash(t, d, []int{2, 1}, "abc", "", "")
	wantCrash(t, d, []int{5, 1}, "abc", "", "")
	wantCrash(t, d, []int{9}, "abcd", "", "")
}

func TestEachFileHasItsChanges(t *testing.T) {
	fresh := func() *Disk {
		d := made(t, "0", "1", "2")
		for i := range 3 {
			for n := range 3 {
				wantWrite(t, d, n, i+1, string(rune('a'+3*n+i)), api.OK)
			}
			if i == 0 {
				wantSync(t, d, 1, api.OK)
			}
		}
		return d
	}
	wantCrash(t, fresh(), []int{3, 2, 3}, "0abc", "1def", "2ghi")
	wantCrash(t, fresh(), nil, "0", "1d", "2")
	wantCrash(t, fresh(), []int{1, 0, 1, 1, 2, 0}, "0a", "1def", "2gh")
	wantCrash(t, fresh(), []int{2, 1, 0, 1, 0, 1}, "0abc", "1de", "2g")
	wantCrash(t, fresh(), []int{3, 2, 2, 1}, "0abc", "1def", "2ghi")
}

// A model of a disk that keeps all that was ever done to it, and works every answer out from the beginning.
type model struct {
	start [3]string
	done  [3][]step
}

// step is a Write, a Cut or a Sync of a file.
type step struct {
	kind int
	at   int
	text string
}

const (
	writes = iota
	cuts
	syncs
)

func newModel(files ...string) *model {
	m := &model{}
	copy(m.start[:], files)
	return m
}

func (m *model) write(n, at int, b string) { m.done[n] = append(m.done[n], step{writes, at, b}) }
func (m *model) cut(n, k int)              { m.done[n] = append(m.done[n], step{cuts, k, ""}) }
func (m *model) sync(n int)                { m.done[n] = append(m.done[n], step{kind: syncs}) }

// replay returns what the steps make of s.
func replay(s string, steps []step) string {
	for _, x := range steps {
		switch x.kind {
		case writes:
			s = s[:x.at] + x.text + s[min(len(s), x.at+len(x.text)):]
		case cuts:
			s = s[:x.at]
		}
	}
	return s
}

func (m *model) now(n int) string {
	return replay(m.start[n], m.done[n])
}

// synced returns how many steps of a file there are up to its last Sync.
func (m *model) synced(n int) int {
	last := 0
	for i, x := range m.done[n] {
		if x.kind == syncs {
			last = i + 1
		}
	}
	return last
}

// crash returns what is found.
func (m *model) crash(picks []int) []string {
	used := 0
	pick := func(choices int) int {
		p := 0
		if used < len(picks) {
			p = picks[used]
		}
		used++
		return int((int64(p%choices) + int64(choices)) % int64(choices))
	}
	var out []string
	for n := range 3 {
		last := m.synced(n)
		later := len(m.done[n]) - last
		kept := slices.Clone(m.done[n][:last+pick(later+1)])
		if len(kept) < len(m.done[n]) && m.done[n][len(kept)].kind == writes {
			torn := m.done[n][len(kept)]
			torn.text = torn.text[:pick(len(torn.text)+1)]
			kept = append(kept, torn)
		}
		out = append(out, replay(m.start[n], kept))
	}
	return out
}

// words hands out words one by one.
type words struct {
	left []uint64
}

func (w *words) below(n int) int {
	v := int(w.left[0] % uint64(n))
	w.left = w.left[1:]
	return v
}

// anyStep makes a step of the words on both, and holds what they answer against each other. One in eight is refused.
func anyStep(t *testing.T, d *Disk, m *model, w *words) {
	t.Helper()
	n := w.below(3)
	size := len(m.now(n))
	b := "0123456789abcdefghijklmnop"[:w.below(9)]
	wrong := w.below(8) == 0
	at := w.below(size + 1)
	switch kind := w.below(8); {
	case kind < 4 && wrong:
		wantWrite(t, d, n, size+1+at, b, api.ErrLimit)
	case kind < 4:
		wantWrite(t, d, n, at, b, api.OK)
		m.write(n, at, b)
	case kind < 6 && wrong:
		wantCut(t, d, n, -1-at, api.ErrLimit)
	case kind < 6:
		wantCut(t, d, n, at, api.OK)
		m.cut(n, at)
	case wrong:
		wantSync(t, d, n+3, api.ErrForm)
	default:
		wantSync(t, d, n, api.OK)
		m.sync(n)
	}
}

func TestMixedCalls(t *testing.T) {
	for seed := range uint64(600) {
		w := &words{spread(seed, 400)}
		m := newModel("abcd"[:w.below(5)], "", "efgh"[:w.below(5)])
		d := made(t, m.start[:]...)
		for range w.below(30) {
			anyStep(t, d, m, w)
			wantFiles(t, d, m.now(0), m.now(1), m.now(2))
		}
		var picks []int
		for range w.below(8) {
			picks = append(picks, w.below(40)-20)
		}
		wantCrash(t, d, picks, m.crash(picks)...)
		wantOff(t, d)
	}
}

// The calls that count bring the power failure, and what was done up to then is what the crash finds of.
func TestMixedCallsWithThePowerOff(t *testing.T) {
	for seed := range uint64(300) {
		w := &words{spread(seed+7000, 400)}
		m := newModel("ab", "cd", "ef")
		d := made(t, m.start[:]...)
		n := 1 + w.below(20)
		d.Off(n)
		for range n - 1 {
			anyStep(t, d, m, w)
			wantFiles(t, d, m.now(0), m.now(1), m.now(2))
		}
		wantOffAtTheNext(t, d, w.below(3))
		var picks []int
		for range w.below(8) {
			picks = append(picks, w.below(40)-20)
		}
		wantCrash(t, d, picks, m.crash(picks)...)
	}
}

func wantOffAtTheNext(t *testing.T, d *Disk, kind int) {
	t.Helper()
	switch kind {
	case writes:
		wantWrite(t, d, 0, 0, "zz", api.ErrPower)
	case cuts:
		wantCut(t, d, 0, 0, api.ErrPower)
	case syncs:
		wantSync(t, d, 0, api.ErrPower)
	}
	wantOff(t, d)
}

// P12.4

// somePicks are picks of all kinds.
func somePicks() [][]int {
	out := [][]int{nil, {0}, {1}, {-1}, {math.MaxInt, math.MaxInt, math.MaxInt}, {math.MinInt, math.MinInt, math.MinInt}}
	for p := -6; p < 7; p++ {
		for q := -6; q < 7; q++ {
			out = append(out, []int{p, q, p, q, p, q})
		}
	}
	return out
}

func TestWhatWasSyncedSurvives(t *testing.T) {
	for _, picks := range somePicks() {
		d := made(t, "abc", "", "old")
		wantWrite(t, d, 0, 3, "def", api.OK)
		wantCut(t, d, 0, 5, api.OK)
		wantWrite(t, d, 0, 0, "A", api.OK)
		wantWrite(t, d, 1, 0, "one", api.OK)
		wantSync(t, d, 0, api.OK)
		wantSync(t, d, 1, api.OK)
		wantWrite(t, d, 2, 3, "er", api.OK)
		wantCrash(t, d, picks, "Abcde", "one")
	}
}

// What is written behind it takes nothing of what was synced.
func TestWhatWasSyncedSurvivesLaterChanges(t *testing.T) {
	for _, picks := range somePicks() {
		d := made(t)
		for n := range 3 {
			wantWrite(t, d, n, 0, "syn", api.OK)
			wantWrite(t, d, n, 3, "ced", api.OK)
			wantSync(t, d, n, api.OK)
			wantWrite(t, d, n, 6, "lat", api.OK)
			wantCut(t, d, n, 8, api.OK)
			wantWrite(t, d, n, 8, "er", api.OK)
		}
		for n, b := range d.Crash(picks) {
			if !strings.HasPrefix("syncedlaer", string(b)) && !strings.HasPrefix("syncedlat", string(b)) || len(b) < 6 {
				t.Errorf("Crash(%v) returns for file %d %q", picks, n, b)
			}
		}
	}
}

// A Sync of one file makes nothing of another durable.
func TestWhatWasNotSyncedMayBeLost(t *testing.T) {
	d := made(t)
	wantWrite(t, d, 0, 0, "a", api.OK)
	wantWrite(t, d, 1, 0, "b", api.OK)
	wantSync(t, d, 0, api.OK)
	wantSync(t, d, 2, api.OK)
	wantCrash(t, d, nil, "a", "", "")
}

func TestWhatACrashFoundIsDurable(t *testing.T) {
	for _, picks := range somePicks() {
		found := changes(t).Crash(picks)
		d, e := New(found)
		if e != api.OK {
			t.Fatalf("New of what Crash(%v) returns is %v", picks, e)
		}
		want := []string{string(found[0]), string(found[1]), string(found[2])}
		wantFiles(t, d, want...)
		wantCrash(t, d, picks, want...)
	}
}

func TestMixedCallsAndThenASync(t *testing.T) {
	for seed := range uint64(200) {
		w := &words{spread(seed+9000, 400)}
		m := newModel("ab", "cd", "ef")
		d := made(t, m.start[:]...)
		for range w.below(30) {
			anyStep(t, d, m, w)
		}
		for n := range 3 {
			wantSync(t, d, n, api.OK)
		}
		wantCrash(t, d, []int{w.below(9) - 4, w.below(9), w.below(9)}, m.now(0), m.now(1), m.now(2))
	}
}

// R1 and R2

// roomy returns s as bytes with spare capacity behind them.
func roomy(s string) []byte {
	return append([]byte(s), "spare"...)[:len(s)]
}

// scribble overwrites b and its spare capacity.
func scribble(b []byte) {
	b = b[:cap(b)]
	for i := range b {
		b[i] = '!'
	}
}

func TestNewKeepsNothingOfItsArgument(t *testing.T) {
	f := [][]byte{roomy("abc"), roomy(""), roomy("z")}
	d, _ := New(f)
	for _, b := range f {
		scribble(b)
	}
	f[0], f[1], f[2] = nil, []byte("other"), nil
	wantFiles(t, d, "abc", "", "z")
	wantCrash(t, d, nil, "abc", "", "z")
}

// One slice as all files: they are three nevertheless.
func TestFilesShareNothing(t *testing.T) {
	b := roomy("abc")
	d, _ := New([][]byte{b, b, b})
	wantWrite(t, d, 0, 1, "X", api.OK)
	wantWrite(t, d, 1, 3, "YZ", api.OK)
	wantCut(t, d, 2, 1, api.OK)
	wantWrite(t, d, 2, 1, "??", api.OK)
	wantFiles(t, d, "aXc", "abcYZ", "a??")
	wantCrash(t, d, nil, "abc", "abc", "abc")
	if string(b[:8]) != "abcspare" {
		t.Errorf("what New was handed is now %q", b[:8])
	}
}

func TestTheDiskChangesNothingOfWhatNewWasHanded(t *testing.T) {
	f := [][]byte{roomy("abc"), roomy(""), roomy("z"), []byte("behind")}
	d, _ := New(f[:3])
	for n := range 3 {
		wantWrite(t, d, n, 0, "WRITTEN", api.OK)
		wantCut(t, d, n, 1, api.OK)
		wantSync(t, d, n, api.OK)
		wantWrite(t, d, n, 0, "AGAIN", api.OK)
		wantSync(t, d, n, api.OK)
	}
	d.Crash(nil)
	for n, w := range []string{"abcspare", "spare", "zspare", "behind"} {
		if string(f[n][:len(w)]) != w {
			t.Errorf("what New was handed is now %q, was %q", f[n][:len(w)], w)
		}
	}
}

func TestWriteKeepsNothingOfItsArgument(t *testing.T) {
	d := made(t)
	for n := range 3 {
		b := roomy("abc")
		if e := d.Write(n, 0, b); e != api.OK {
			t.Fatal(e)
		}
		if string(b[:8]) != "abcspare" {
			t.Errorf("Write made %q of its argument", b[:8])
		}
		if n == 1 {
			wantSync(t, d, n, api.OK)
		}
		scribble(b)
	}
	wantFiles(t, d, "abc", "abc", "abc")
	wantSync(t, d, 2, api.OK)
	wantCrash(t, d, []int{1}, "abc", "abc", "abc")
	wantCrash(t, d, []int{0, 2}, "ab", "abc", "abc")
}

func TestReadReturnsNewMemory(t *testing.T) {
	d := made(t, "abcdef", "", "")
	wantWrite(t, d, 1, 0, "ghijkl", api.OK)
	for n, w := range []string{"abcdef", "ghijkl"} {
		for at := range 7 {
			for k := range 7 - at {
				first, _ := d.Read(n, at, k)
				second, _ := d.Read(n, at, k)
				scribble(first)
				_ = append(first, "!!!!!!!!"...)
				if string(second) != w[at:at+k] {
					t.Fatalf("two results of Read share memory: %q", second)
				}
				wantFiles(t, d, "abcdef", "ghijkl", "")
			}
		}
	}
	wantWrite(t, d, 0, 0, "X", api.OK)
	before, _ := d.Read(0, 0, 6)
	wantWrite(t, d, 0, 0, "YYYYYY", api.OK)
	wantCut(t, d, 0, 0, api.OK)
	if string(before) != "Xbcdef" {
		t.Errorf("a later Write made %q of a result of Read", before)
	}
}

func TestCrashReturnsNewMemory(t *testing.T) {
	for _, picks := range somePicks() {
		d := changes(t)
		first := d.Crash(picks)
		want := []string{string(first[0]), string(first[1]), string(first[2])}
		second := d.Crash(picks)
		for n, b := range first {
			scribble(b)
			_ = append(b, "!!!!!!!!"...)
			for after := n + 1; after < 3; after++ {
				if string(first[after]) != want[after] {
					t.Errorf("two files of Crash(%v) share memory", picks)
				}
			}
			first[n] = nil
		}
		_ = append(first, []byte("fourth"))
		for n, b := range second {
			if string(b) != want[n] {
				t.Errorf("two results of Crash(%v) share memory: %q, was %q", picks, b, want[n])
			}
		}
		wantCrash(t, d, picks, want...)
	}
}

// What a crash finds does not change what a further one finds.
func TestCrashTwice(t *testing.T) {
	d := changes(t)
	wantCrash(t, d, []int{4, 0, 2}, "aXYd", "", "n")
	wantCrash(t, d, nil, "abc", "", "z")
	wantCrash(t, d, []int{0, 2, 0, 1}, "abcde", "", "new")
	wantCrash(t, d, []int{3, 1, 0, 1}, "aXcd", "", "new")
	wantCrash(t, d, []int{4, 0, 2}, "aXYd", "", "n")
}

func TestCrashChangesNoPicks(t *testing.T) {
	picks := []int{-1, 7, -1, 5, math.MinInt, 3}
	kept := slices.Clone(picks)
	changes(t).Crash(picks[:4])
	if !slices.Equal(picks, kept) {
		t.Errorf("Crash made %v of the picks %v", picks, kept)
	}
}

func TestDisksShareNothing(t *testing.T) {
	f := [][]byte{[]byte("abc"), nil, []byte("z")}
	a, _ := New(f)
	b, _ := New(f)
	c, _ := New(nil)
	wantWrite(t, a, 0, 0, "XYZ1", api.OK)
	wantSync(t, a, 0, api.OK)
	a.Off(2)
	wantFiles(t, b, "abc", "", "z")
	wantSync(t, b, 0, api.OK)
	wantSync(t, b, 0, api.OK)
	wantSync(t, c, 0, api.OK)
	a.Crash(nil)
	wantFiles(t, b, "abc", "", "z")
	wantFiles(t, c, "", "", "")
	found := a.Crash(nil)
	wantCrash(t, b, nil, "abc", "", "z")
	if string(found[0]) != "XYZ1" {
		t.Errorf("another disk's crash made %q of what was found", found[0])
	}
}

// Reading has no effect, and neither has what is refused.
func TestRefusedCallsHaveNoEffect(t *testing.T) {
	for _, picks := range somePicks() {
		d, plain := changes(t), changes(t)
		for _, n := range wrongFiles() {
			wantWrite(t, d, n, 0, "x", api.ErrForm)
			wantCut(t, d, n, 0, api.ErrForm)
			wantSync(t, d, n, api.ErrForm)
			wantSize(t, d, n, 0, api.ErrForm)
			wantRead(t, d, n, 0, 0, "", api.ErrForm)
		}
		for n := range 3 {
			wantWrite(t, d, n, 9, "x", api.ErrLimit)
			wantWrite(t, d, n, -1, "x", api.ErrLimit)
			wantCut(t, d, n, 9, api.ErrLimit)
			wantCut(t, d, n, -1, api.ErrLimit)
			wantRead(t, d, n, 9, 1, "", api.ErrLimit)
			wantRead(t, d, n, 0, -1, "", api.ErrForm)
		}
		wantFiles(t, d, "aXYd", "", "n")
		want := plain.Crash(picks)
		wantOff(t, plain)
		wantCrash(t, d, picks, string(want[0]), string(want[1]), string(want[2]))
	}
}

// A log writes a little and syncs, again and again: each time costs what was written, not what is there.
func TestManySyncsOfALongFile(t *testing.T) {
	d := made(t, strings.Repeat("f", api.MaxLog-200000), "", "")
	for i := range 100000 {
		size, _ := d.Size(0)
		if e := d.Write(0, size, []byte{'a', byte(i)}); e != api.OK {
			t.Fatal(e)
		}
		if e := d.Sync(0); e != api.OK {
			t.Fatal(e)
		}
	}
	wantSize(t, d, 0, api.MaxLog, api.OK)
	found := d.Crash(nil)
	if len(found[0]) != api.MaxLog || !bytes.HasSuffix(found[0], []byte{'a', 99998 & 255, 'a', 99999 & 255}) {
		t.Errorf("%d bytes were found", len(found[0]))
	}
}

func TestManyChangesWithoutASync(t *testing.T) {
	d := made(t)
	for i := range 100000 {
		if e := d.Write(1, i%1000, []byte{byte(i), byte(i >> 8)}); e != api.OK {
			t.Fatal(e)
		}
	}
	found := d.Crash([]int{0, 99999, 1})
	if len(found[1]) != 1001 || found[1][999] != 99999&255 || found[1][1000] != 98999>>8&255 {
		t.Errorf("%d bytes were found", len(found[1]))
	}
}
