package log

import (
	"bytes"
	"math"
	"slices"
	"strings"
	"testing"

	"arras/api"
	"arras/disk"
)

// words hands out numbers, the same in every run.
type words struct {
	seed uint64
}

func (w *words) below(n int) int {
	w.seed = w.seed*6364136223846793005 + 1442695040888963407
	return int(w.seed>>33) % n
}

// text returns a text of n bytes of all kinds.
func (w *words) text(n int) string {
	b := make([]byte, n)
	for i := range b {
		b[i] = byte(w.below(256))
	}
	return string(b)
}

// everyByte is a record with every byte in it.
func everyByte() string {
	b := make([]byte, 256)
	for i := range b {
		b[i] = byte(i)
	}
	return string(b)
}

// inFile returns records as they lie in a file.
func inFile(records ...string) []byte {
	var b []byte
	for _, s := range records {
		b = append(b, entry(s)...)
	}
	return b
}

// made returns a disk on which such files are durable.
func made(t *testing.T, files ...[]byte) *disk.Disk {
	t.Helper()
	d, e := disk.New(files)
	if e != api.OK {
		t.Fatalf("no disk: %v", e)
	}
	return d
}

// opened returns the log on d.
func opened(t *testing.T, d *disk.Disk) *Log {
	t.Helper()
	l, e := Open(d)
	if l == nil || e != api.OK {
		t.Fatalf("Open is %p, %v", l, e)
	}
	return l
}

// fresh returns a log on a new disk, with such records that are durable.
func fresh(t *testing.T, records ...string) (*disk.Disk, *Log) {
	t.Helper()
	d := made(t)
	l := opened(t, d)
	for _, s := range records {
		wantAppend(t, l, s, api.OK)
	}
	wantSync(t, l, api.OK)
	return d, l
}

// found returns the log as it is found on what a crash of d leaves.
func found(t *testing.T, d *disk.Disk, picks ...int) *Log {
	t.Helper()
	return opened(t, made(t, d.Crash(picks)...))
}

func wantAll(t *testing.T, l *Log, want ...string) {
	t.Helper()
	if got := l.All(); !slices.Equal(got, want) {
		t.Fatalf("All is %s, want %s", brief(got), brief(want))
	}
}

func wantAppend(t *testing.T, l *Log, s string, e api.Errno) {
	t.Helper()
	if got := l.Append(s); got != e {
		t.Fatalf("Append of %d bytes is %v, want %v", len(s), got, e)
	}
}

func wantSync(t *testing.T, l *Log, e api.Errno) {
	t.Helper()
	if got := l.Sync(); got != e {
		t.Fatalf("Sync is %v, want %v", got, e)
	}
}

func wantReset(t *testing.T, l *Log, s []string, e api.Errno) {
	t.Helper()
	if got := l.Reset(s); got != e {
		t.Fatalf("Reset to %s is %v, want %v", brief(s), got, e)
	}
}

// wantBroken holds that every call is refused for the power, ahead of any other reason, and that the records are want still.
func wantBroken(t *testing.T, l *Log, want ...string) {
	t.Helper()
	long := strings.Repeat("x", api.MaxRecord+1)
	for range 2 {
		for _, s := range []string{"", "a", long[1:], long} {
			wantAppend(t, l, s, api.ErrPower)
			wantReset(t, l, []string{"a", s}, api.ErrPower)
			wantAll(t, l, want...)
		}
		wantReset(t, l, nil, api.ErrPower)
		wantReset(t, l, slices.Repeat([]string{long[1:]}, 600), api.ErrPower)
		wantSync(t, l, api.ErrPower)
		wantAll(t, l, want...)
	}
}

// brief returns records without what no report needs.
func brief(records []string) string {
	s := strings.Join(records, "|")
	return strings.ToValidUTF8(s[:min(len(s), 80)], "?")
}

// somePicks are picks that keep none of the changes of each file, a part, or all, and of the bytes of a Write none, a part, or all.
func somePicks() [][]int {
	out := [][]int{nil, {-1, -1, -1, -1, -1, -1}, {math.MaxInt, math.MinInt, math.MaxInt, math.MinInt}}
	for _, first := range []int{0, 1, -1} {
		for changes := range 6 {
			for _, part := range []int{0, 1, 8, 16, 17, 20, -2, -1} {
				out = append(out, []int{first, changes, part, changes, part})
			}
		}
	}
	return out
}

// P13.1

func TestOpenOfNoDisk(t *testing.T) {
	if l, e := Open(nil); l != nil || e != api.ErrForm {
		t.Errorf("Open(nil) is %p, %v", l, e)
	}
}

func TestOpenOfAnEmptyDisk(t *testing.T) {
	for _, d := range []*disk.Disk{made(t), made(t, nil, nil, nil), made(t, []byte{}, []byte{}, nil)} {
		wantAll(t, opened(t, d))
		wantAll(t, opened(t, d))
		wantAll(t, found(t, d))
	}
}

func TestOpenWithoutPower(t *testing.T) {
	for _, off := range []func(d *disk.Disk){
		func(d *disk.Disk) { d.Off(0) },
		func(d *disk.Disk) { d.Off(1); d.Sync(0) },
		func(d *disk.Disk) { d.Crash(nil) },
	} {
		for _, records := range [][]string{nil, {"a", "b"}} {
			d, _ := fresh(t, records...)
			off(d)
			if l, e := Open(d); l != nil || e != api.ErrPower {
				t.Errorf("Open without power is %p, %v", l, e)
			}
		}
	}
}

// someLists are lists of records of all kinds.
func someLists() [][]string {
	long := strings.Repeat("l", api.MaxRecord)
	inside := string(inFile("in", "", "side"))
	return [][]string{
		nil, {}, {""}, {"a"}, {"", "", ""}, {"\x00"}, {"\x00\x00\x00\x00", "", "\xff\xff"}, {"one", "", "three"},
		{everyByte(), everyByte()[100:], "z"}, {long}, {long, "", long[1:], "a"}, slices.Repeat([]string{"same"}, 50),
		{strings.Repeat("\x00", api.MaxRecord), strings.Repeat("\xff", 100)}, {inside, inside[3:], inside[:17], ""},
	}
}

func TestOpenOfWhatWasLeft(t *testing.T) {
	for _, records := range someLists() {
		d, l := fresh(t)
		for n, s := range records {
			wantAppend(t, l, s, api.OK)
			wantAll(t, opened(t, d), records[:n+1]...)
		}
		wantSync(t, l, api.OK)
		wantAll(t, opened(t, d), records...)
		wantAll(t, found(t, d), records...)

		d, l = fresh(t, "old", "older")
		wantReset(t, l, records, api.OK)
		wantAll(t, opened(t, d), records...)
		wantAppend(t, l, "last", api.OK)
		wantAll(t, opened(t, d), append(slices.Clone(records), "last")...)
	}
}

// A log that was opened goes on where the one before it was left.
func TestAnOpenedLogGoesOn(t *testing.T) {
	d := made(t)
	var want []string
	for n := range 40 {
		l := opened(t, d)
		wantAll(t, l, want...)
		s := strings.Repeat("n", n)
		wantAppend(t, l, s, api.OK)
		want = append(want, s)
		if n%5 == 4 {
			want = want[n%3:]
			wantReset(t, l, want, api.OK)
		}
		if n%3 == 0 {
			wantSync(t, l, api.OK)
			d = made(t, d.Crash(nil)...)
		}
	}
}

// somethingElse is what may lie in a file that is of no log, or of none as Append and Reset leave it.
func somethingElse() [][]byte {
	w := &words{5}
	long := strings.Repeat("l", api.MaxRecord+1)
	out := [][]byte{
		nil, []byte("something else"), []byte("\x01"), []byte("\x02"), []byte("\x02 and more"), []byte("\x00"), []byte("\x03"),
		make([]byte, 7), make([]byte, headSize), make([]byte, 1000), bytes.Repeat([]byte{0xff}, 1000),
		make([]byte, api.MaxLog), bytes.Repeat([]byte{0xff}, api.MaxLog), []byte(w.text(api.MaxLog)),
		inFile(long), inFile("a", long, "b"), inFile("a", "b", "c")[1:], append(inFile("a", "b"), "cde"...),
		// More than may be: in all but the size of all, they are records.
		bytes.Repeat(inFile(long[1:]), 511), bytes.Repeat(inFile(""), 140000), bytes.Repeat(inFile("abc"), api.MaxLog/19),
	}
	for n := range 64 {
		out = append(out, []byte(w.text(n)), inFile("abc", "", everyByte()[:n])[:19+n])
	}
	return out
}

// wantALog holds that d has a log, whatever that is, which is found again and does all that a log does.
func wantALog(t *testing.T, d *disk.Disk) {
	t.Helper()
	l := opened(t, d)
	want := l.All()
	if sizeOf(want...) > api.MaxLog/2 || slices.ContainsFunc(want, isLong) {
		t.Fatalf("the log is larger than one may be: %s", brief(want))
	}
	wantAll(t, opened(t, d), want...)
	if sizeOf(want...)+sizeOf("new") > api.MaxLog/2 {
		wantAppend(t, l, "new", api.ErrFull)
	} else {
		wantAppend(t, l, "new", api.OK)
		want = append(want, "new")
	}
	wantAll(t, opened(t, d), want...)
	wantSync(t, l, api.OK)
	d = made(t, d.Crash(nil)...)
	wantAll(t, opened(t, d), want...)
	for range 3 {
		l = opened(t, d)
		wantReset(t, l, []string{"re", "set"}, api.OK)
		wantAppend(t, l, "more", api.OK)
		wantAll(t, opened(t, d), "re", "set", "more")
		wantSync(t, l, api.OK)
		d = made(t, d.Crash(nil)...)
		wantAll(t, opened(t, d), "re", "set", "more")
	}
}

func TestOpenOfSomethingElse(t *testing.T) {
	for _, b := range somethingElse() {
		for _, first := range []string{"", "\x02", "\x02\x01"} {
			wantALog(t, made(t, []byte(first), b, b))
		}
		wantALog(t, made(t, b, nil, nil))
		wantALog(t, made(t, b, b, b))
	}
}

// What is not durable of it when it is opened takes nothing with it later.
func TestOpenOfSomethingElseThatIsNotDurable(t *testing.T) {
	for _, b := range somethingElse() {
		d := made(t, nil, []byte("what was there"), nil)
		for n := range 3 {
			if e := d.Write(n, 0, b); e != api.OK {
				t.Fatal(e)
			}
		}
		wantALog(t, d)
	}
}

// A record of no bytes is more than bytes that are 0.
func TestOpenOfZeros(t *testing.T) {
	for _, n := range []int{1, headSize, 5 * headSize, api.MaxLog} {
		b := make([]byte, n)
		wantAll(t, opened(t, made(t, b, b, b)))
	}
}

func TestOpenFindsTheSameWhateverFollows(t *testing.T) {
	for _, picks := range somePicks() {
		d := made(t)
		wantAppend(t, opened(t, d), "not synced", api.OK)
		wantAll(t, opened(t, d), "not synced")
		wantAll(t, found(t, d, picks...), "not synced")
	}
}

// A byte that is another one takes away its record and those behind it, and nothing else.
func TestOpenWithAnotherByte(t *testing.T) {
	records := []string{"one", "", everyByte(), "four"}
	d, _ := fresh(t, records...)
	files := d.Crash(nil)
	for n := range files[firstFile] {
		for _, change := range []byte{1, 0x80, 0xff} {
			files[firstFile][n] ^= change
			at := 0
			for sizeOf(records[:at+1]...) <= n {
				at++
			}
			wantAll(t, opened(t, made(t, files...)), records[:at]...)
			files[firstFile][n] ^= change
		}
	}
}

func TestOpenOfACutFile(t *testing.T) {
	records := []string{"one", "", everyByte(), "four"}
	d, _ := fresh(t, records...)
	files := d.Crash(nil)
	whole := files[firstFile]
	for n := range whole {
		files[firstFile] = whole[:n]
		at := 0
		for sizeOf(records[:at+1]...) <= n {
			at++
		}
		wantAll(t, opened(t, made(t, files...)), records[:at]...)
	}
}

// P13.2

func TestAppendOfEachRecord(t *testing.T) {
	long := strings.Repeat("x", api.MaxRecord)
	d, l := fresh(t)
	var want []string
	for _, s := range []string{"", "a", "", "\x00", "\xff", everyByte(), long, long[1:], "not \xfe utf-8", "z"} {
		wantAppend(t, l, s, api.OK)
		want = append(want, s)
		wantAll(t, l, want...)
		wantAppend(t, l, long+"x", api.ErrForm)
		wantAppend(t, l, long+long, api.ErrForm)
		wantAll(t, l, want...)
	}
	wantSync(t, l, api.OK)
	wantAll(t, l, want...)
	wantAll(t, found(t, d), want...)
}

func TestAppendOfEachByte(t *testing.T) {
	d, l := fresh(t)
	var want []string
	for n := range 256 {
		s := string([]byte{byte(n)})
		wantAppend(t, l, s, api.OK)
		want = append(want, s)
	}
	wantAll(t, l, want...)
	wantSync(t, l, api.OK)
	wantAll(t, found(t, d), want...)
}

// fullLists are records that are together just as large as may be: long ones and one that fills the rest, and as many as possible.
func fullLists() [][]string {
	long := strings.Repeat("x", api.MaxRecord)
	n := api.MaxLog / 2 / (api.MaxRecord + 16)
	rest := api.MaxLog/2 - n*(api.MaxRecord+16) - 16
	return [][]string{
		append(slices.Repeat([]string{long}, n), long[:rest]),
		slices.Repeat([]string{""}, api.MaxLog/2/16),
		append(slices.Repeat([]string{""}, api.MaxLog/2/16-2), everyByte()[:16]),
	}
}

func TestAppendUpToTheRoom(t *testing.T) {
	for _, records := range fullLists() {
		d, l := fresh(t)
		last := len(records) - 1
		for _, s := range records[:last] {
			wantAppend(t, l, s, api.OK)
		}
		wantAppend(t, l, records[last]+"x", api.ErrFull)
		wantAll(t, l, records[:last]...)
		wantAll(t, opened(t, d), records[:last]...)
		wantAppend(t, l, records[last], api.OK)
		wantFull(t, d, l, records)
	}
}

func TestResetUpToTheRoom(t *testing.T) {
	for _, records := range fullLists() {
		d, l := fresh(t, "old")
		last := len(records) - 1
		for _, tooMany := range [][]string{
			append(slices.Clone(records[:last]), records[last]+"x"), append(slices.Clone(records), ""),
			append([]string{"x" + records[last]}, records[:last]...), append(slices.Clone(records), records...),
		} {
			wantReset(t, l, tooMany, api.ErrFull)
			wantAll(t, l, "old")
			wantAll(t, opened(t, d), "old")
		}
		wantReset(t, l, records, api.OK)
		wantReset(t, l, records, api.OK)
		wantFull(t, d, l, records)
	}
}

// wantFull holds that nothing goes behind the records, that these are found, and that there is room again behind a Reset.
func wantFull(t *testing.T, d *disk.Disk, l *Log, records []string) {
	t.Helper()
	wantAll(t, l, records...)
	wantAppend(t, l, "", api.ErrFull)
	wantAppend(t, l, strings.Repeat("x", api.MaxRecord+1), api.ErrForm)
	wantSync(t, l, api.OK)
	d = made(t, d.Crash(nil)...)
	l = opened(t, d)
	wantAll(t, l, records...)
	wantAppend(t, l, "", api.ErrFull)
	last := len(records) - 1
	wantReset(t, l, records[:last], api.OK)
	wantAppend(t, l, records[last]+"x", api.ErrFull)
	wantAppend(t, l, records[last], api.OK)
	wantSync(t, l, api.OK)
	wantAll(t, found(t, d), records...)
}

func TestResetToEachList(t *testing.T) {
	d, l := fresh(t, "old")
	for range 2 {
		for _, records := range someLists() {
			wantReset(t, l, records, api.OK)
			wantAll(t, l, records...)
			wantAll(t, opened(t, d), records...)
		}
	}
}

func TestResetAndOtherCalls(t *testing.T) {
	d, l := fresh(t, "old")
	for _, records := range someLists() {
		want := append(slices.Clone(records), "", "behind")
		wantReset(t, l, records, api.OK)
		wantAppend(t, l, "", api.OK)
		wantSync(t, l, api.OK)
		wantAppend(t, l, "behind", api.OK)
		wantAll(t, l, want...)
		wantReset(t, l, l.All(), api.OK)
		wantAll(t, l, want...)
		wantSync(t, l, api.OK)
		wantReset(t, l, nil, api.OK)
		wantAll(t, l)
		wantAppend(t, l, "once more", api.OK)
		wantReset(t, l, want, api.OK)
		d = made(t, d.Crash([]int{1, 2, 3, 4})...)
		l = opened(t, d)
		wantAll(t, l, want...)
	}
}

func TestResetToWrongRecords(t *testing.T) {
	long := strings.Repeat("x", api.MaxRecord+1)
	full := fullLists()[0]
	d, l := fresh(t, "a", "b")
	for _, wrong := range [][]string{{long}, {"c", long}, {long, "c"}, {"c", long + long, "d"}, append([]string{long}, full...), append(slices.Clone(full), long)} {
		wantReset(t, l, wrong, api.ErrForm)
		wantAll(t, l, "a", "b")
		wantAll(t, opened(t, d), "a", "b")
	}
	wantReset(t, l, []string{long[1:], long[1:]}, api.OK)
	wantAll(t, l, long[1:], long[1:])
}

// Without power, what is wrong with the records goes ahead, until the disk was asked.
func TestTheOrderOfTheErrors(t *testing.T) {
	long := strings.Repeat("x", api.MaxRecord+1)
	full := fullLists()[0]
	for _, asked := range []func(l *Log) api.Errno{
		func(l *Log) api.Errno { return l.Sync() },
		func(l *Log) api.Errno { return l.Reset(nil) },
		func(l *Log) api.Errno { return l.Reset(full) },
	} {
		d, l := fresh(t)
		wantReset(t, l, full, api.OK)
		d.Off(0)
		for range 2 {
			wantAppend(t, l, long, api.ErrForm)
			wantAppend(t, l, "", api.ErrFull)
			wantReset(t, l, append(slices.Clone(full), long), api.ErrForm)
			wantReset(t, l, append(slices.Clone(full), ""), api.ErrFull)
			wantAll(t, l, full...)
		}
		if e := asked(l); e != api.ErrPower {
			t.Fatalf("without power the answer is %v", e)
		}
		wantBroken(t, l, full...)
	}
	d, l := fresh(t, "a")
	d.Off(0)
	wantAppend(t, l, long, api.ErrForm)
	wantAppend(t, l, "b", api.ErrPower)
	wantBroken(t, l, "a")
}

func TestWhatWasSyncedIsFound(t *testing.T) {
	for _, picks := range somePicks() {
		d, l := fresh(t, "a", "", everyByte())
		wantAll(t, found(t, d, picks...), "a", "", everyByte())
		d, l = fresh(t, "a")
		wantAppend(t, l, "b", api.OK)
		wantSync(t, l, api.OK)
		wantAppend(t, l, "c", api.OK)
		wantAppend(t, l, "d", api.OK)
		got := found(t, d, picks...).All()
		if len(got) < 2 || !slices.Equal(got, []string{"a", "b", "c", "d"}[:len(got)]) {
			t.Errorf("with the picks %v, %s is found", picks, brief(got))
		}
	}
}

func TestWhatWasResetIsFound(t *testing.T) {
	for _, picks := range somePicks() {
		d, l := fresh(t, "old")
		for _, records := range [][]string{{"a", ""}, nil, {everyByte()}, {"last", "one"}} {
			wantAppend(t, l, "not synced", api.OK)
			wantReset(t, l, records, api.OK)
			d = made(t, d.Crash(picks)...)
			l = opened(t, d)
			wantAll(t, l, records...)
		}
	}
}

// P13.3

// everyCall are calls of each kind that change or keep something.
func everyCall() []call {
	return []call{
		{appends, []string{""}}, {appends, []string{"new"}}, {appends, []string{strings.Repeat("x", api.MaxRecord)}},
		{syncs, nil}, {resets, nil}, {resets, []string{""}}, {resets, []string{"a", "b", "c"}}, {resets, []string{everyByte()}},
	}
}

func TestBehindAnErrorOfTheDisk(t *testing.T) {
	for _, c := range everyCall() {
		for _, was := range [][]string{nil, {"a"}, {"a", "", everyByte()}} {
			fails := 0
			for n := 0; ; n++ {
				d, l := fresh(t)
				wantReset(t, l, was, api.OK)
				d.Off(n)
				e := c.do(l)
				if e == api.OK {
					wantAll(t, l, c.next(was)...)
					break
				}
				if e != api.ErrPower {
					t.Fatalf("without power the answer is %v", e)
				}
				wantBroken(t, l, was...)
				fails++
			}
			if fails < 2 {
				t.Errorf("a call of kind %d does not ask the disk", c.kind)
			}
		}
	}
}

// The disk may refuse for another reason than the power, if something else is done to it.
func TestBehindAnotherErrorOfTheDisk(t *testing.T) {
	d, l := fresh(t, "a", "b")
	for n := range 3 {
		if e := d.Cut(n, 0); e != api.OK {
			t.Fatal(e)
		}
	}
	wantAppend(t, l, "c", api.ErrLimit)
	wantBroken(t, l, "a", "b")
}

func TestARefusedCallIsNoErrorOfTheDisk(t *testing.T) {
	long := strings.Repeat("x", api.MaxRecord+1)
	d, l := fresh(t, "a")
	wantAppend(t, l, long, api.ErrForm)
	wantReset(t, l, []string{long}, api.ErrForm)
	wantReset(t, l, slices.Repeat([]string{long[1:]}, 600), api.ErrFull)
	wantAppend(t, l, "b", api.OK)
	wantSync(t, l, api.OK)
	wantReset(t, l, []string{"c"}, api.OK)
	wantAll(t, found(t, d), "c")
}

// A log that was not opened has no disk: that is an error, too, and no panic.
func TestALogThatWasNotOpened(t *testing.T) {
	wantBroken(t, &Log{})
}

// P13.4

// call is one of a log's.
type call struct {
	kind    int
	records []string
}

const (
	appends = iota
	syncs
	resets
)

func (c call) do(l *Log) api.Errno {
	switch c.kind {
	case appends:
		return l.Append(c.records[0])
	case syncs:
		return l.Sync()
	}
	return l.Reset(c.records)
}

// next returns the records behind the call.
func (c call) next(was []string) []string {
	switch c.kind {
	case appends:
		return append(slices.Clone(was), c.records[0])
	case syncs:
		return was
	}
	return c.records
}

// scripts are calls one behind another.
func scripts() [][]call {
	return [][]call{
		{{appends, []string{"a"}}, {appends, []string{""}}, {appends, []string{everyByte()}}, {syncs, nil}, {appends, []string{"c"}}, {appends, []string{"d"}}},
		{{resets, []string{"x", "", "y"}}, {appends, []string{"z"}}, {resets, nil}, {appends, []string{"q"}}, {syncs, nil}},
		{{appends, []string{"a"}}, {resets, []string{"b"}}, {appends, []string{"c"}}, {appends, []string{"d"}}, {resets, []string{"e"}}, {appends, []string{"f"}}},
		{{syncs, nil}, {resets, nil}, {resets, []string{""}}, {resets, []string{"", ""}}, {syncs, nil}},
		{{appends, []string{strings.Repeat("\x00", 40)}}, {appends, []string{strings.Repeat("\x02", 9)}}, {resets, []string{"\x00\x00"}}, {appends, []string{"\x02"}}},
	}
}

// starts are the files of disks: an empty one, and such as were left by a log, in either file, with a part of a record behind it, and by something else.
func starts(t *testing.T) [][][]byte {
	t.Helper()
	d, l := fresh(t, "s", "t")
	first := d.Crash(nil)
	d, l = fresh(t, "s")
	wantReset(t, l, []string{"t", "", "u"}, api.OK)
	second := d.Crash(nil)
	d, l = fresh(t, "s")
	wantAppend(t, l, "a part of this", api.OK)
	part := d.Crash([]int{0, 0, 20})
	wantAll(t, opened(t, made(t, part...)), "s")
	return [][][]byte{nil, first, second, part, {[]byte("\x02"), []byte("some"), []byte("thing else, longer than a head")}}
}

// run makes calls until the power fails, and returns which logs may be found behind that.
func run(t *testing.T, l *Log, calls []call) (can [][]string, off bool) {
	t.Helper()
	can = [][]string{l.All()}
	for _, c := range calls {
		was := l.All()
		e := c.do(l)
		if e != api.OK {
			if e != api.ErrPower || l.Sync() != api.ErrPower || l.Append("") != api.ErrPower || l.Reset(nil) != api.ErrPower {
				t.Fatalf("without power the answer is %v", e)
			}
			wantAll(t, l, was...)
			return append(can, c.next(was)), true
		}
		wantAll(t, l, c.next(was)...)
		if c.kind != appends {
			can = nil
		}
		can = append(can, l.All())
	}
	return can, false
}

// wantOneOf holds that the log on the files is one of can, that it is found again, also where the power fails while it is opened, and returns it.
func wantOneOf(t *testing.T, files [][]byte, picks []int, can [][]string) []string {
	t.Helper()
	d := made(t, files...)
	got := opened(t, d).All()
	if !slices.ContainsFunc(can, func(l []string) bool { return slices.Equal(l, got) }) {
		t.Fatalf("with the picks %v, %s is found", picks, brief(got))
	}
	wantAll(t, opened(t, d), got...)
	for n := range 4 {
		d := made(t, files...)
		d.Off(n)
		if l, e := Open(d); e == api.OK {
			wantAll(t, l, got...)
		} else if l != nil || e != api.ErrPower {
			t.Fatalf("Open is %p, %v", l, e)
		}
		files = d.Crash(picks)
		wantAll(t, opened(t, made(t, files...)), got...)
	}
	return got
}

// atEachCall makes the power fail at each call of the disk that the calls make on the files, and holds what is found against what may be.
func atEachCall(t *testing.T, files [][]byte, calls []call, picks []int) {
	t.Helper()
	for n, off := 1, true; off; n++ {
		d := made(t, files...)
		l := opened(t, d)
		d.Off(n)
		var can [][]string
		can, off = run(t, l, calls)
		wantOneOf(t, d.Crash(picks), picks, can)
	}
}

func TestThePowerFailsAtEachCall(t *testing.T) {
	for _, files := range starts(t) {
		for _, calls := range scripts() {
			for _, picks := range somePicks() {
				atEachCall(t, files, calls, picks)
			}
		}
	}
}

// Each number of bytes of each Write that Append and Reset make.
func TestThePowerFailsWithinAWrite(t *testing.T) {
	calls := []call{{appends, []string{"ab"}}, {resets, []string{"c", "de"}}, {appends, []string{"f"}}}
	for _, files := range starts(t) {
		for part := range 3*headSize + 9 {
			for _, picks := range [][]int{{0, 0, part, 0, part}, {0, 1, part, 0, part}, {0, 0, 1, part}, {0, 1, 1, part}, {0, part, 0, part, 0, part}} {
				atEachCall(t, files, calls, picks)
			}
		}
	}
}

// What is left of a record behind a shorter one is no record, even if it looks like one.
func TestAPartOfARecordWithRecordsInIt(t *testing.T) {
	long := "l" + string(inFile("never", "appended")) + strings.Repeat("x", 40)
	for part := range headSize + len(long) {
		d, l := fresh(t)
		wantAppend(t, l, long, api.OK)
		files := d.Crash([]int{0, 0, part})
		d = made(t, files...)
		l = opened(t, d)
		wantAll(t, l)
		wantAppend(t, l, "b", api.OK)
		wantAll(t, opened(t, d), "b")
		for _, picks := range somePicks() {
			atEachCall(t, files, []call{{appends, []string{"b"}}, {syncs, nil}}, picks)
		}
	}
}

// anyCall returns a call of the words.
func anyCall(w *words) call {
	switch w.below(7) {
	case 0:
		return call{syncs, nil}
	case 1:
		var records []string
		for range w.below(4) {
			records = append(records, w.text(w.below(30)))
		}
		return call{resets, records}
	case 2:
		return call{appends, []string{strings.Repeat("\x00", w.below(40))}}
	case 3:
		return call{appends, []string{string(inFile("in", "side"))[w.below(9):]}}
	}
	return call{appends, []string{w.text(w.below(40))}}
}

// One crash behind another, each on what the one before it left.
func TestManyCrashes(t *testing.T) {
	for seed := range 1500 {
		w := &words{uint64(seed)}
		var files [][]byte
		var want []string
		for range 6 {
			d := made(t, files...)
			l := opened(t, d)
			wantAll(t, l, want...)
			d.Off(1 + w.below(40))
			var calls []call
			for range w.below(25) {
				calls = append(calls, anyCall(w))
			}
			can, _ := run(t, l, calls)
			var picks []int
			for range w.below(9) {
				picks = append(picks, w.below(80)-20)
			}
			files = d.Crash(picks)
			want = wantOneOf(t, files, picks, can)
		}
	}
}

func TestThePowerFailsWhileMuchIsReset(t *testing.T) {
	records := slices.Repeat([]string{strings.Repeat("m", api.MaxRecord)}, 20)
	calls := []call{{appends, []string{"a"}}, {resets, records}, {resets, records[1:]}}
	for _, picks := range [][]int{nil, {0, 2, 1, 2, 1}, {-1, -1, -1, -1}, {1, 0, 0, 1, 10000}, {0, 1, -2, 1, -2}, {0, 1, 1 << 16, 1, 1 << 16}} {
		atEachCall(t, nil, calls, picks)
	}
}

// R1 and R2

func TestAllReturnsNewMemory(t *testing.T) {
	d, l := fresh(t, "a", "", "c")
	for range 2 {
		first, second := l.All(), l.All()
		whole := first[:cap(first)]
		for i := range whole {
			whole[i] = "spoilt"
		}
		_ = append(first[:1], "spoilt", "spoilt", "spoilt")
		if !slices.Equal(second, []string{"a", "", "c"}) {
			t.Errorf("two results of All share memory: %q", second)
		}
		wantAll(t, l, "a", "", "c")
		wantAll(t, opened(t, d), "a", "", "c")
		wantReset(t, l, second, api.OK)
	}
	before := l.All()
	wantAppend(t, l, "d", api.OK)
	wantReset(t, l, []string{"e"}, api.OK)
	if !slices.Equal(before, []string{"a", "", "c"}) {
		t.Errorf("later calls made %q of a result of All", before)
	}
}

func TestResetKeepsAndChangesNothingOfItsArgument(t *testing.T) {
	d, l := fresh(t, "old")
	whole := []string{"a", "", "c", "spare", "spare"}
	wantReset(t, l, whole[:3], api.OK)
	wantAppend(t, l, "d", api.OK)
	wantReset(t, l, whole[:2], api.OK)
	wantAppend(t, l, "e", api.OK)
	if !slices.Equal(whole, []string{"a", "", "c", "spare", "spare"}) {
		t.Errorf("Reset made %q of its argument", whole)
	}
	for i := range whole {
		whole[i] = "spoilt"
	}
	wantAll(t, l, "a", "", "e")
	wantAll(t, opened(t, d), "a", "", "e")
}

func TestLogsShareNothing(t *testing.T) {
	d, _ := fresh(t, "a")
	files := d.Crash(nil)
	one, two := made(t, files...), made(t, files...)
	first, second := opened(t, one), opened(t, two)
	wantAppend(t, first, "b", api.OK)
	wantAll(t, second, "a")
	wantAppend(t, second, "c", api.OK)
	wantAll(t, first, "a", "b")
	wantReset(t, first, nil, api.OK)
	one.Off(0)
	wantSync(t, first, api.ErrPower)
	wantSync(t, second, api.OK)
	wantAll(t, found(t, two), "a", "c")
}

// What is refused asks nothing of the disk: the power fails no earlier for it.
func TestRefusedCallsHaveNoEffect(t *testing.T) {
	long := strings.Repeat("x", api.MaxRecord+1)
	for n := range 12 {
		var ends []int
		for _, refused := range []int{0, 9} {
			d, l := fresh(t, "a")
			d.Off(n)
			end := 0
			for end < 20 && l.Append("b") == api.OK {
				for range refused {
					wantAppend(t, l, long, api.ErrForm)
					wantReset(t, l, []string{long}, api.ErrForm)
					wantReset(t, l, slices.Repeat([]string{long[1:]}, 600), api.ErrFull)
					l.All()
				}
				end++
			}
			ends = append(ends, end)
		}
		if ends[0] != ends[1] {
			t.Errorf("with refused calls between, %d are made, and %d without", ends[1], ends[0])
		}
	}
}

// Each call costs what it is about, not what is there: but for Reset and Open.
func TestManyAppendsAndSyncs(t *testing.T) {
	d, l := fresh(t)
	for n := range 100000 {
		if e := l.Append(everyByte()[n%4 : n%4+1]); e != api.OK {
			t.Fatal(e)
		}
		if e := l.Sync(); e != api.OK {
			t.Fatal(e)
		}
	}
	if got := found(t, d).All(); len(got) != 100000 || got[99999] != "\x03" {
		t.Errorf("%d records are found", len(got))
	}
}
