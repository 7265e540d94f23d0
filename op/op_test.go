package op

import (
	"bytes"
	"encoding/binary"
	"math"
	"reflect"
	"slices"
	"strings"
	"testing"

	"arras/api"
	"arras/code"
	"arras/have"
	"arras/stamp"
)

var (
	root  = api.Stamp{Time: 0, Rep: 0}
	trash = api.Stamp{Time: 0, Rep: 1}
)

// spread returns n words, the same in every run.
func spread(seed uint64, n int) []uint64 {
	out := make([]uint64, n)
	for i := range out {
		seed = seed*6364136223846793005 + 1442695040888963407
		out[i] = seed>>17 ^ seed<<29
	}
	return out
}

// move is an ordinary one, without a field that is the zero value by chance.
func move() api.Op {
	return api.Op{Stamp: api.Stamp{Time: 500, Rep: 2}, Seq: 41, Deps: []int{7, 300, 40, 1}, Kind: api.OpMove, Node: api.Stamp{Time: 130, Rep: 3}, Parent: api.Stamp{Time: 9, Rep: 1}, Key: "a\x00b"}
}

func style() api.Op {
	return api.Op{Stamp: api.Stamp{Time: 500, Rep: 2}, Seq: 41, Deps: []int{7, 300, 40, 1}, Kind: api.OpStyle, Node: api.Stamp{Time: 130, Rep: 3}, Prop: api.PropWidth, Value: 200}
}

// changed returns o with a change; its Deps are its own.
func changed(o api.Op, change func(o *api.Op)) api.Op {
	o.Deps = slices.Clone(o.Deps)
	change(&o)
	return o
}

// ranges holds the least and the greatest value of each property, as the document says them.
func ranges() [19][2]int {
	const coord, weight, space = 1 << 40, 1 << 20, 1 << 30
	return [19][2]int{{0, 2}, {0, 1}, {0, 1}, {-1, coord}, {-1, coord}, {0, coord}, {-1, coord}, {0, coord}, {-1, coord}, {0, weight}, {0, weight}, {-1, coord}, {0, space}, {0, space}, {0, space}, {0, 4}, {0, 3}, {0, 1<<24 - 1}, {64, 64000}}
}

func goodStamps() []api.Stamp {
	return []api.Stamp{{Time: 1, Rep: 0}, {Time: 1, Rep: 15}, {Time: 127, Rep: 1}, {Time: 128, Rep: 2}, {Time: 1 << 20, Rep: 7}, {Time: api.MaxTime, Rep: 0}, {Time: api.MaxTime, Rep: 15}}
}

// noStamps are not even places.
func noStamps() []api.Stamp {
	return []api.Stamp{{Time: -1, Rep: 0}, {Time: api.MaxTime + 1, Rep: 0}, {Time: math.MaxInt, Rep: 1}, {Time: math.MinInt, Rep: 0}, {Time: 1, Rep: -1}, {Time: 1, Rep: 16}, {Time: 1, Rep: math.MaxInt}, {Time: 1, Rep: math.MinInt}, {Time: 0, Rep: 2}, {Time: 0, Rep: 15}, {Time: 0, Rep: 16}, {Time: 0, Rep: -1}}
}

func goodKeys() []string {
	return []string{"k", "\x01", "\xff", "\x00\x01", "a\x00b", "\xff\xfe", strings.Repeat("z", 63), strings.Repeat("\x01", 64), strings.Repeat("\x00", 63) + "\xff"}
}

func badKeys() []string {
	return []string{"", "\x00", "a\x00", strings.Repeat("z", 63) + "\x00", strings.Repeat("z", 65), strings.Repeat("\x01", 1<<16)}
}

// issued returns o as if its replica had issued it with that stamp, behind before others, and in a document of reps replicas.
func issued(o api.Op, at api.Stamp, reps, before int) api.Op {
	o.Stamp, o.Seq = at, before+1
	o.Deps = nil
	for i := range reps {
		o.Deps = append(o.Deps, 100*i)
	}
	o.Deps[at.Rep] = before
	return o
}

// goodOps are valid: each field at its edges, and mixed ones.
func goodOps() []api.Op {
	var out []api.Op
	for _, base := range []api.Op{move(), style()} {
		out = append(out, base)
		for _, s := range goodStamps() {
			for reps := s.Rep + 1; reps <= api.MaxReps; reps++ {
				out = append(out, issued(base, s, reps, 0), issued(base, s, reps, 299), issued(base, s, reps, api.MaxTime-1))
			}
			out = append(out, changed(base, func(o *api.Op) { o.Node = s }))
		}
	}
	for _, s := range append(goodStamps(), root, trash) {
		out = append(out, changed(move(), func(o *api.Op) { o.Parent = s }))
	}
	for _, k := range goodKeys() {
		out = append(out, changed(move(), func(o *api.Op) { o.Key = k }))
	}
	for p, r := range ranges() {
		for _, v := range []int{r[0], r[1], r[0] + (r[1]-r[0])/2} {
			out = append(out, changed(style(), func(o *api.Op) { o.Prop, o.Value = p, v }))
		}
	}
	return append(out, mixedOps(200)...)
}

// mixedOps are n valid operations of both kinds with fields of all sizes.
func mixedOps(n int) []api.Op {
	var out []api.Op
	for i := range n {
		words := spread(uint64(i), 24)
		time := func() int { return 1 + int(words[20]>>24)>>(words[21]%40) }
		o := api.Op{Stamp: api.Stamp{Time: time(), Rep: int(words[0] % 16)}, Node: api.Stamp{Time: 1 + int(words[1]%1000), Rep: int(words[2] % 16)}}
		for at := range o.Stamp.Rep + 1 + int(words[3]%uint64(16-o.Stamp.Rep)) {
			o.Deps = append(o.Deps, int(words[4+at]>>25)>>(words[4+at]%39))
		}
		o.Seq = o.Deps[o.Stamp.Rep] + 1
		if i%2 == 0 {
			o.Kind, o.Parent = api.OpMove, api.Stamp{Time: 1 + int(words[22]%300), Rep: int(words[22] % 16)}
			o.Key = strings.Repeat(string(rune(1+words[23]%100)), 1+int(words[22]%64))
		} else {
			o.Kind, o.Prop = api.OpStyle, int(words[22]%19)
			r := ranges()[o.Prop]
			o.Value = r[0] + int(words[23]%uint64(r[1]-r[0]+1))
		}
		out = append(out, o)
	}
	return out
}

// badOps are valid but for one thing.
func badOps() []api.Op {
	var out []api.Op
	bad := func(base api.Op, change func(o *api.Op)) { out = append(out, changed(base, change)) }
	for _, base := range []api.Op{move(), style()} {
		for _, s := range append(noStamps(), root, trash) {
			bad(base, func(o *api.Op) { o.Stamp = s })
			bad(base, func(o *api.Op) { o.Stamp.Time, o.Stamp.Rep = s.Time, s.Rep; o.Deps = slices.Repeat([]int{40}, 16) })
			bad(base, func(o *api.Op) { o.Node = s })
		}
		for _, deps := range [][]int{nil, {}, {40}, {7, 300}, {7, 300, 41, 1}, {7, 300, 39, 1}, {7, 300, -1}, {-1, 300, 40, 1}, {7, 300, 40, -1}, {7, api.MaxTime + 1, 40}, {7, 300, 40, math.MinInt}, {math.MaxInt, 300, 40}, slices.Repeat([]int{40}, 17), slices.Repeat([]int{40}, 1<<10)} {
			bad(base, func(o *api.Op) { o.Deps = deps })
		}
		for _, seq := range []int{0, 1, 39, 40, 42, -41, -1, api.MaxTime, api.MaxTime + 1, math.MinInt, math.MaxInt} {
			bad(base, func(o *api.Op) { o.Seq = seq })
		}
		for _, kind := range []int{api.OpNone, 3, 4, -1, -2, 256 + base.Kind, 1<<32 + base.Kind, math.MaxInt, math.MinInt, 3 - base.Kind} {
			bad(base, func(o *api.Op) { o.Kind = kind })
		}
	}
	return slices.Concat(out, badCounts(), badMoves(), badStyles())
}

// badCounts are wrong where Stamp's Rep, Deps and Seq meet.
func badCounts() []api.Op {
	var out []api.Op
	for _, base := range []api.Op{move(), style()} {
		for rep := range api.MaxReps {
			o := issued(base, api.Stamp{Time: 3, Rep: rep}, rep+1, 8)
			out = append(out,
				changed(o, func(o *api.Op) { o.Deps = o.Deps[:rep] }),
				changed(o, func(o *api.Op) { o.Seq++ }),
				changed(o, func(o *api.Op) { o.Seq-- }),
				changed(o, func(o *api.Op) { o.Deps[rep]++ }),
				changed(o, func(o *api.Op) { o.Deps[rep]-- }),
				changed(o, func(o *api.Op) { o.Deps[rep], o.Seq = -1, 0 }),
				changed(o, func(o *api.Op) { o.Deps[rep], o.Seq = 0, 0 }),
				changed(o, func(o *api.Op) { o.Deps[rep], o.Seq = api.MaxTime, api.MaxTime }),
				changed(o, func(o *api.Op) { o.Deps[rep], o.Seq = api.MaxTime, api.MaxTime+1 }),
				changed(o, func(o *api.Op) { o.Deps[rep], o.Seq = math.MaxInt, math.MinInt }))
		}
	}
	return out
}

// badMoves are wrong in a field of moves, or have one of styles.
func badMoves() []api.Op {
	var out []api.Op
	for _, s := range noStamps() {
		out = append(out, changed(move(), func(o *api.Op) { o.Parent = s }))
	}
	for _, k := range badKeys() {
		out = append(out, changed(move(), func(o *api.Op) { o.Key = k }))
	}
	for _, n := range []int{1, 3, 18, -1, 19, math.MaxInt, math.MinInt} {
		out = append(out, changed(move(), func(o *api.Op) { o.Prop = n }), changed(move(), func(o *api.Op) { o.Value = n }))
	}
	return out
}

// badStyles are wrong in a field of styles, or have one of moves.
func badStyles() []api.Op {
	var out []api.Op
	for p, r := range ranges() {
		for _, v := range []int{r[0] - 1, r[1] + 1, math.MinInt, math.MaxInt} {
			out = append(out, changed(style(), func(o *api.Op) { o.Prop, o.Value = p, v }))
		}
	}
	for _, p := range []int{-1, 19, 20, math.MinInt, math.MaxInt} {
		for _, v := range []int{0, -1, 1, 64, math.MinInt, math.MaxInt} {
			out = append(out, changed(style(), func(o *api.Op) { o.Prop, o.Value = p, v }))
		}
	}
	for _, s := range slices.Concat([]api.Stamp{trash}, goodStamps(), noStamps()) {
		out = append(out, changed(style(), func(o *api.Op) { o.Parent = s }))
	}
	for _, k := range append(goodKeys(), badKeys()[1:]...) {
		out = append(out, changed(style(), func(o *api.Op) { o.Key = k }))
	}
	return out
}

// nums encodes numbers by the library.
func nums(numbers ...int) []byte {
	var out []byte
	for _, n := range numbers {
		out = binary.AppendUvarint(out, uint64(n))
	}
	return out
}

// plainParts encodes each part of o, which need not be valid, in its order.
func plainParts(o api.Op) [][]byte {
	parts := [][]byte{
		nums(o.Stamp.Time, o.Stamp.Rep),
		append(nums(len(o.Deps)), nums(o.Deps...)...),
		nums(o.Kind),
		nums(o.Node.Time, o.Node.Rep),
	}
	if o.Kind == api.OpMove {
		return append(parts, nums(o.Parent.Time, o.Parent.Rep), append(nums(len(o.Key)), o.Key...))
	}
	return append(parts, nums(o.Prop), nums(o.Value+1))
}

func plainBytes(o api.Op) []byte {
	return slices.Concat(plainParts(o)...)
}

func wantCheck(t *testing.T, o api.Op, e api.Errno) {
	t.Helper()
	if got := Check(o); got != e {
		t.Errorf("Check(%+v): %d, want %d", o, got, e)
	}
}

func wantBytes(t *testing.T, o api.Op, b []byte, e api.Errno) {
	t.Helper()
	if gotB, gotE := Bytes(o); !bytes.Equal(gotB, b) || gotE != e {
		t.Errorf("Bytes(%+v): %v, %d, want %v, %d", o, gotB, gotE, b, e)
	}
}

// same tells whether a and b are equal in every field; no Deps and empty ones are.
func same(a, b api.Op) bool {
	if !slices.Equal(a.Deps, b.Deps) {
		return false
	}
	a.Deps, b.Deps = nil, nil
	return reflect.DeepEqual(a, b)
}

func wantTake(t *testing.T, b []byte, o api.Op, k int, e api.Errno) {
	t.Helper()
	if gotO, gotK, gotE := Take(b); !same(gotO, o) || gotK != k || gotE != e {
		t.Errorf("Take(%v): %+v, %d, %d, want %+v, %d, %d", b, gotO, gotK, gotE, o, k, e)
	}
}

func wantRefused(t *testing.T, b []byte, e api.Errno) {
	t.Helper()
	wantTake(t, b, api.Op{}, 0, e)
}

// P10.1

func TestCheckOfValidOperations(t *testing.T) {
	for _, o := range goodOps() {
		wantCheck(t, o, api.OK)
	}
}

func TestCheckAndBytesRefuseWhatIsNotValid(t *testing.T) {
	for _, o := range badOps() {
		wantCheck(t, o, api.ErrForm)
		wantBytes(t, o, nil, api.ErrForm)
	}
	wantCheck(t, api.Op{}, api.ErrForm)
	wantBytes(t, api.Op{}, nil, api.ErrForm)
}

func TestDepsJustLongEnough(t *testing.T) {
	for rep := range api.MaxReps {
		for reps := 1; reps <= api.MaxReps+1; reps++ {
			o := changed(style(), func(o *api.Op) {
				o.Stamp.Rep, o.Deps, o.Seq = rep, slices.Repeat([]int{4}, reps), 5
			})
			want := api.ErrForm
			if reps > rep && reps <= 16 {
				want = api.OK
			}
			wantCheck(t, o, want)
		}
	}
}

func TestSeqAtTheEdges(t *testing.T) {
	for _, c := range []struct {
		dep, seq int
		e        api.Errno
	}{
		{0, 1, api.OK},
		{0, 0, api.ErrForm},
		{0, 2, api.ErrForm},
		{0, -1, api.ErrForm},
		{-1, 0, api.ErrForm},
		{1, 2, api.OK},
		{1, 1, api.ErrForm},
		{1<<40 - 1, 1 << 40, api.OK},
		{1<<40 - 1, 1<<40 - 1, api.ErrForm},
		{1<<40 - 1, 1<<40 + 1, api.ErrForm},
		{1 << 40, 1<<40 + 1, api.ErrForm},
		{1 << 40, 1 << 40, api.ErrForm},
		{math.MaxInt, math.MinInt, api.ErrForm},
	} {
		for _, base := range []api.Op{move(), style()} {
			wantCheck(t, changed(base, func(o *api.Op) { o.Deps[2], o.Seq = c.dep, c.seq }), c.e)
		}
	}
}

func TestValuesAtTheEdges(t *testing.T) {
	for p, r := range ranges() {
		for _, c := range []struct {
			value int
			e     api.Errno
		}{{r[0] - 1, api.ErrForm}, {r[0], api.OK}, {r[1], api.OK}, {r[1] + 1, api.ErrForm}} {
			wantCheck(t, changed(style(), func(o *api.Op) { o.Prop, o.Value = p, c.value }), c.e)
		}
	}
}

func TestBytesOfExamples(t *testing.T) {
	wantBytes(t, move(), []byte{244, 3, 2, 4, 7, 172, 2, 40, 1, 1, 130, 1, 3, 9, 1, 3, 'a', 0, 'b'}, api.OK)
	wantBytes(t, style(), []byte{244, 3, 2, 4, 7, 172, 2, 40, 1, 2, 130, 1, 3, 3, 201, 1}, api.OK)
	wantBytes(t, changed(style(), func(o *api.Op) { o.Value = -1 }), []byte{244, 3, 2, 4, 7, 172, 2, 40, 1, 2, 130, 1, 3, 3, 0}, api.OK)
	wantBytes(t, changed(style(), func(o *api.Op) { o.Prop, o.Value = api.PropDisplay, 0 }), []byte{244, 3, 2, 4, 7, 172, 2, 40, 1, 2, 130, 1, 3, 0, 1}, api.OK)
	first := api.Op{Stamp: api.Stamp{Time: 1}, Seq: 1, Deps: []int{0}, Kind: api.OpMove, Node: api.Stamp{Time: 1}, Parent: root, Key: "\x80"}
	wantBytes(t, first, []byte{1, 0, 1, 0, 1, 1, 0, 0, 0, 1, 128}, api.OK)
	first.Parent = trash
	wantBytes(t, first, []byte{1, 0, 1, 0, 1, 1, 0, 0, 1, 1, 128}, api.OK)
}

func TestSeqIsNotEncoded(t *testing.T) {
	low := issued(style(), api.Stamp{Time: 4, Rep: 0}, 2, 9)
	if b, e := Bytes(low); e != api.OK || !bytes.Equal(b[:5], []byte{4, 0, 2, 9, 100}) || b[5] != api.OpStyle {
		t.Errorf("Bytes(%+v): %v, %d", low, b, e)
	}
	for _, before := range []int{0, 1, 127, 128, api.MaxTime - 1} {
		o := issued(style(), api.Stamp{Time: 4, Rep: 0}, 2, before)
		got, _, e := Take(plainBytes(o))
		if e != api.OK || got.Seq != before+1 {
			t.Errorf("Seq behind %d: %d, %d", before, got.Seq, e)
		}
	}
}

func TestBytesAreThePartsInTheirOrder(t *testing.T) {
	for _, o := range goodOps() {
		wantBytes(t, o, plainBytes(o), api.OK)
	}
}

func TestBytesAreThoseOfTheLayersBelow(t *testing.T) {
	must := func(b []byte, e api.Errno) []byte {
		if e != api.OK {
			t.Fatal(e)
		}
		return b
	}
	for _, o := range goodOps() {
		want := slices.Concat(must(stamp.Bytes(o.Stamp)), must(have.Bytes(o.Deps)), must(code.Num(o.Kind)), must(stamp.Bytes(o.Node)))
		if o.Kind == api.OpMove {
			want = slices.Concat(want, must(stamp.Bytes(o.Parent)), must(code.Text(o.Key)))
		} else {
			want = slices.Concat(want, must(code.Num(o.Prop)), must(code.Num(o.Value+1)))
		}
		wantBytes(t, o, want, api.OK)
	}
}

// P10.2

func TestTakeOfValidOperations(t *testing.T) {
	for _, o := range goodOps() {
		b := plainBytes(o)
		wantTake(t, b, o, len(b), api.OK)
	}
}

func TestTakeLeavesWhatFollows(t *testing.T) {
	for _, o := range goodOps() {
		b := plainBytes(o)
		for _, behind := range [][]byte{{0}, {1}, {128}, {255, 255, 255}, b, make([]byte, 300)} {
			wantTake(t, slices.Concat(b, behind), o, len(b), api.OK)
		}
	}
}

func TestTakeOfWhatIsCutShort(t *testing.T) {
	for _, o := range goodOps() {
		b := plainBytes(o)
		for end := range b {
			wantRefused(t, b[:end:end], api.ErrCut)
			// What lies behind the end, in the slice's spare capacity, is not read.
			wantRefused(t, b[:end], api.ErrCut)
		}
	}
	wantRefused(t, nil, api.ErrCut)
}

// wrongParts are for each part bytes that can't be decoded as it, with their errors. Nothing may follow those that are cut.
func wrongParts(kind int) [][]struct {
	b []byte
	e api.Errno
} {
	type wrong = struct {
		b []byte
		e api.Errno
	}
	number := []wrong{{nil, api.ErrCut}, {[]byte{128}, api.ErrCut}, {[]byte{129, 0}, api.ErrForm}, {[]byte{255, 255, 255, 255, 255, 255, 255, 255, 255}, api.ErrForm}, {nums(1<<62 + 1), api.ErrForm}}
	place := append([]wrong{{nums(5), api.ErrCut}, {nums(5, 16), api.ErrForm}, {nums(1<<40+1, 0), api.ErrForm}, {nums(0, 2), api.ErrForm}, {append(nums(5), 129, 0), api.ErrForm}, {append(nums(1<<62), 128), api.ErrCut}}, number...)
	vector := append([]wrong{{nums(0), api.ErrForm}, {nums(3, 1, 2), api.ErrCut}, {nums(3, 1, 1<<40+1, 2), api.ErrForm}, {append(nums(17), make([]byte, 17)...), api.ErrForm}, {append(nums(17), make([]byte, 16)...), api.ErrCut}, {nums(1 << 10), api.ErrCut}, {nums(1<<10 + 1), api.ErrForm}, {append(nums(2, 0), 130, 0), api.ErrForm}}, number...)
	kinds := append([]wrong{{nums(0), api.ErrForm}, {nums(3), api.ErrForm}, {nums(127), api.ErrForm}, {nums(257), api.ErrForm}, {nums(1<<32 + 1), api.ErrForm}, {nums(1 << 62), api.ErrForm}}, number...)
	text := append([]wrong{{nums(1), api.ErrCut}, {append(nums(3), "ab"...), api.ErrCut}, {nums(1 << 16), api.ErrCut}, {nums(1<<16 + 1), api.ErrForm}}, number...)
	if kind == api.OpMove {
		return [][]wrong{place, vector, kinds, place, place, text}
	}
	return [][]wrong{place, vector, kinds, place, number, number}
}

func TestTakeOfEachPartWrong(t *testing.T) {
	for _, o := range []api.Op{move(), style()} {
		parts := plainParts(o)
		for at, wrongs := range wrongParts(o.Kind) {
			for _, w := range wrongs {
				b := append(slices.Concat(parts[:at]...), w.b...)
				wantRefused(t, b, w.e)
				if w.e == api.ErrForm {
					wantRefused(t, slices.Concat(b, slices.Concat(parts[at+1:]...)), w.e)
				}
			}
		}
	}
}

func TestTheFirstWrongPartTellsTheError(t *testing.T) {
	for _, o := range []api.Op{move(), style()} {
		wrongs := wrongParts(o.Kind)
		for first := range wrongs {
			for second := first + 1; second < len(wrongs); second++ {
				for _, w := range wrongs[second] {
					parts := plainParts(o)
					parts[first] = []byte{129, 0}
					if first == 2 {
						parts[first] = nums(3)
					}
					parts[second] = w.b
					wantRefused(t, slices.Concat(parts[:second+1]...), api.ErrForm)
				}
			}
		}
	}
}

// undone returns valid parts but for what only a valid operation has: each can be decoded.
func undone() []api.Op {
	var out []api.Op
	for _, base := range []api.Op{move(), style()} {
		out = append(out,
			changed(base, func(o *api.Op) { o.Stamp = root }),
			changed(base, func(o *api.Op) { o.Stamp = trash }),
			changed(base, func(o *api.Op) { o.Node = root }),
			changed(base, func(o *api.Op) { o.Node = trash }),
			changed(base, func(o *api.Op) { o.Deps = o.Deps[:2] }),
			changed(base, func(o *api.Op) { o.Deps = o.Deps[:1] }),
			changed(base, func(o *api.Op) { o.Stamp.Rep = 4 }),
			changed(base, func(o *api.Op) { o.Stamp.Rep = 15 }),
			changed(base, func(o *api.Op) { o.Stamp = trash; o.Deps = o.Deps[:1] }),
			changed(base, func(o *api.Op) { o.Deps[2] = api.MaxTime }))
	}
	for _, k := range badKeys() {
		out = append(out, changed(move(), func(o *api.Op) { o.Key = k }))
	}
	for p, r := range ranges() {
		for _, v := range []int{r[0] - 1, r[1] + 1, 1<<62 - 1} {
			if v >= -1 {
				out = append(out, changed(style(), func(o *api.Op) { o.Prop, o.Value = p, v }))
			}
		}
	}
	for _, p := range []int{19, 20, 128, 1 << 32, 1 << 62} {
		out = append(out, changed(style(), func(o *api.Op) { o.Prop = p }))
	}
	return out
}

func TestTakeOfPartsThatAreNoOperation(t *testing.T) {
	for _, o := range undone() {
		b := plainBytes(o)
		wantRefused(t, b, api.ErrForm)
		wantRefused(t, append(slices.Clone(b), 1, 2, 3), api.ErrForm)
	}
}

func TestALaterPartCutGoesAheadOfNoOperation(t *testing.T) {
	for _, o := range undone() {
		b := plainBytes(o)
		if len(b) > 1000 {
			continue
		}
		for end := range b {
			wantRefused(t, b[:end], api.ErrCut)
		}
	}
}

// P10.3

func TestLess(t *testing.T) {
	of := func(time, rep int) api.Op { return api.Op{Stamp: api.Stamp{Time: time, Rep: rep}} }
	for _, c := range []struct {
		a, b api.Op
		want bool
	}{
		{of(4, 2), of(5, 0), true},
		{of(5, 0), of(4, 2), false},
		{of(4, 2), of(4, 3), true},
		{of(4, 3), of(4, 2), false},
		{of(4, 2), of(4, 2), false},
		{of(1, 0), of(api.MaxTime, 15), true},
		{of(-1, 0), of(0, 0), true},
		{of(0, 0), of(0, 1), true},
		{of(math.MinInt, math.MaxInt), of(math.MaxInt, math.MinInt), true},
		{of(math.MaxInt, math.MinInt), of(math.MinInt, math.MaxInt), false},
		{of(3, math.MinInt), of(3, math.MaxInt), true},
		{of(3, math.MaxInt), of(3, math.MinInt), false},
	} {
		if got := Less(c.a, c.b); got != c.want {
			t.Errorf("Less(%v, %v): %v", c.a.Stamp, c.b.Stamp, got)
		}
	}
}

func TestLessIsByStampsAlone(t *testing.T) {
	ops := slices.Concat(goodOps()[:60], badOps()[:60], mixedOps(60), []api.Op{{}})
	for _, a := range ops {
		for _, b := range ops {
			want := a.Stamp.Time < b.Stamp.Time || a.Stamp.Time == b.Stamp.Time && a.Stamp.Rep < b.Stamp.Rep
			if Less(a, b) != want || Less(a, b) != (stamp.Cmp(a.Stamp, b.Stamp) == -1) {
				t.Errorf("Less of %v and %v: %v", a.Stamp, b.Stamp, !want)
			}
		}
	}
	first, second := move(), style()
	second.Node, second.Deps, second.Seq = api.Stamp{Time: 1}, []int{0}, 1
	if Less(first, second) || Less(second, first) {
		t.Error("Less of two operations with the same Stamp")
	}
}

// P10.4

func TestWhatIsEncodedIsDecoded(t *testing.T) {
	for _, o := range goodOps() {
		b, e := Bytes(o)
		if e != api.OK {
			t.Errorf("Bytes(%+v): %d", o, e)
		}
		wantTake(t, b, o, len(b), api.OK)
	}
}

// What can be decoded was encoded exactly so: bytes near those of operations, and others.
func TestWhatIsDecodedWasEncodedSo(t *testing.T) {
	taken := 0
	encodedAgain := func(b []byte) {
		o, k, e := Take(b)
		if e != api.OK {
			if k != 0 || !same(o, api.Op{}) {
				t.Errorf("Take(%v): %+v, %d, %d", b, o, k, e)
			}
			return
		}
		taken++
		wantCheck(t, o, api.OK)
		wantBytes(t, o, b[:k], api.OK)
	}
	for _, o := range append(mixedOps(30), move(), style()) {
		b := plainBytes(o)
		for at := range b {
			for value := range 256 {
				near := slices.Clone(b)
				near[at] = byte(value)
				encodedAgain(near)
			}
			encodedAgain(slices.Delete(slices.Clone(b), at, at+1))
			encodedAgain(slices.Insert(slices.Clone(b), at, 0))
			encodedAgain(slices.Insert(slices.Clone(b), at, 1))
			encodedAgain(slices.Insert(slices.Clone(b), at, 128))
		}
	}
	for seed := range 20000 {
		var b []byte
		for _, word := range spread(uint64(seed), 16) {
			b = append(b, byte(word%4))
		}
		encodedAgain(b)
	}
	if taken < 1000 {
		t.Errorf("only %d were operations", taken)
	}
}

func TestDifferentOperationsHaveDifferentBytes(t *testing.T) {
	seen := map[string]api.Op{}
	for _, o := range goodOps() {
		b, _ := Bytes(o)
		if other, ok := seen[string(b)]; ok && !same(o, other) {
			t.Errorf("%+v and %+v: %v", o, other, b)
		}
		seen[string(b)] = o
	}
}

// No encoding is the beginning of another one: they can be read one behind another.
func TestOperationsOneBehindAnother(t *testing.T) {
	ops := goodOps()
	var all []byte
	for _, o := range ops {
		b, _ := Bytes(o)
		all = append(all, b...)
	}
	for _, o := range ops {
		got, k, e := Take(all)
		if e != api.OK || !same(got, o) {
			t.Fatalf("Take: %+v, %d, want %+v", got, e, o)
		}
		all = all[k:]
	}
	if len(all) != 0 {
		t.Errorf("%d bytes are left", len(all))
	}
}

// R1 and R2

func TestArgumentsAreNotChanged(t *testing.T) {
	for _, o := range append(goodOps(), badOps()...) {
		deps := append(slices.Clone(o.Deps), 77, 78)
		given := o
		given.Deps = deps[:len(o.Deps)]
		Check(given)
		Bytes(given)
		Less(given, given)
		if !slices.Equal(deps, append(slices.Clone(o.Deps), 77, 78)) {
			t.Errorf("Deps of %+v are now %v", o, deps)
		}
	}
	for _, o := range append(goodOps(), undone()...) {
		b := append(plainBytes(o), 77, 78)
		before := slices.Clone(b)
		Take(b[:len(b)-2])
		if !bytes.Equal(b, before) {
			t.Errorf("the bytes of %+v are now %v", o, b)
		}
	}
}

func TestResultsAreNewMemory(t *testing.T) {
	for _, o := range []api.Op{move(), style()} {
		first, _ := Bytes(o)
		second, _ := Bytes(o)
		clear(first[:cap(first)])
		if want := plainBytes(o); !bytes.Equal(second, want) {
			t.Errorf("Bytes shares memory: %v", second)
		}
		wantBytes(t, o, plainBytes(o), api.OK)
		b := plainBytes(o)
		x, _, _ := Take(b)
		y, _, _ := Take(b)
		clear(x.Deps[:cap(x.Deps)])
		if !same(y, o) {
			t.Errorf("Take shares Deps: %+v", y)
		}
		if !bytes.Equal(b, plainBytes(o)) {
			t.Errorf("Take's Deps share memory with the bytes: %v", b)
		}
		clear(b)
		if !same(y, o) {
			t.Errorf("Take shares memory with the bytes: %+v", y)
		}
	}
}

func TestEqualCallsGiveEqualResults(t *testing.T) {
	for _, o := range goodOps() {
		first, e := Bytes(o)
		wantBytes(t, o, first, e)
		x, k, f := Take(first)
		wantTake(t, first, x, k, f)
	}
}

func TestLargeInputs(t *testing.T) {
	wantCheck(t, changed(move(), func(o *api.Op) { o.Deps = make([]int, 1<<22) }), api.ErrForm)
	wantCheck(t, changed(move(), func(o *api.Op) { o.Key = strings.Repeat("k", 1<<24) }), api.ErrForm)
	wantRefused(t, bytes.Repeat([]byte{255}, 1<<24), api.ErrForm)
	wantRefused(t, make([]byte, 1<<24), api.ErrForm)
	b := plainBytes(move())
	wantTake(t, append(slices.Clone(b), make([]byte, 1<<24)...), move(), len(b), api.OK)
}
