package frame

import (
	"bytes"
	"encoding/binary"
	"hash/crc32"
	"math"
	"reflect"
	"slices"
	"strings"
	"testing"

	"arras/api"
	"arras/code"
	"arras/have"
	"arras/op"
	"arras/sum"
)

// spread returns n words, the same in every run.
func spread(seed uint64, n int) []uint64 {
	out := make([]uint64, n)
	for i := range out {
		seed = seed*6364136223846793005 + 1442695040888963407
		out[i] = seed>>17 ^ seed<<29
	}
	return out
}

// move is an ordinary one, without a field that is the zero value by chance.
func move() api.Op {
	return api.Op{Stamp: api.Stamp{Time: 500, Rep: 2}, Seq: 41, Deps: []int{7, 300, 40, 1}, Kind: api.OpMove, Node: api.Stamp{Time: 130, Rep: 3}, Parent: api.Stamp{Time: 9, Rep: 1}, Key: "a\x00b"}
}

func style() api.Op {
	return api.Op{Stamp: api.Stamp{Time: 501, Rep: 2}, Seq: 42, Deps: []int{7, 300, 41, 1}, Kind: api.OpStyle, Node: api.Stamp{Time: 130, Rep: 3}, Prop: api.PropWidth, Value: 200}
}

func ask() api.Frame {
	return api.Frame{From: 3, To: 12, Kind: api.FrameAsk, Have: []int{5, 0, 300, 1 << 30}}
}

func ops() api.Frame {
	return api.Frame{From: 3, To: 12, Kind: api.FrameOps, Ops: []api.Op{move(), style()}}
}

// copied returns f with lists of its own.
func copied(f api.Frame) api.Frame {
	f.Have, f.Ops = slices.Clone(f.Have), slices.Clone(f.Ops)
	for i := range f.Ops {
		f.Ops[i].Deps = slices.Clone(f.Ops[i].Deps)
	}
	return f
}

// changed returns f with a change; its lists are its own.
func changed(f api.Frame, change func(f *api.Frame)) api.Frame {
	f = copied(f)
	change(&f)
	return f
}

// batch returns n valid operations of both kinds, no two of them alike.
func batch(n int) []api.Op {
	var out []api.Op
	for i := range n {
		o := move()
		if i%3 == 1 {
			o = style()
		}
		o.Stamp.Time += 100 * i
		o.Deps[2] = 5 * i
		o.Seq = 5*i + 1
		out = append(out, o)
	}
	return out
}

func goodHaves() [][]int {
	out := [][]int{{0}, {1}, {127}, {128}, {api.MaxTime}, {api.MaxTime - 1, 0}}
	for n := 1; n <= api.MaxReps; n++ {
		out = append(out, make([]int, n), slices.Repeat([]int{api.MaxTime}, n), slices.Repeat([]int{300}, n))
	}
	return out
}

func badHaves() [][]int {
	out := [][]int{nil, {}, {-1}, {math.MinInt}, {math.MaxInt}, {api.MaxTime + 1}, make([]int, 17), make([]int, 1<<10), make([]int, 1<<10+1)}
	for at := range 4 {
		for _, n := range []int{-1, api.MaxTime + 1, math.MinInt, math.MaxInt} {
			v := []int{5, 0, 300, 1 << 30}
			v[at] = n
			out = append(out, v)
		}
	}
	return out
}

// goodOps are valid operations with each field at an edge.
func goodOps() []api.Op {
	longest := move()
	longest.Stamp, longest.Node, longest.Parent = api.Stamp{Time: api.MaxTime, Rep: 15}, api.Stamp{Time: api.MaxTime, Rep: 15}, api.Stamp{Time: api.MaxTime, Rep: 15}
	longest.Deps, longest.Key = slices.Repeat([]int{api.MaxTime - 1}, 16), strings.Repeat("\xff", 64)
	longest.Seq = api.MaxTime
	shortest := api.Op{Stamp: api.Stamp{Time: 1}, Seq: 1, Deps: []int{0}, Kind: api.OpMove, Node: api.Stamp{Time: 1}, Key: "\x80"}
	least, none := style(), style()
	least.Prop, least.Value = api.PropDisplay, 0
	none.Value = -1
	trashed := move()
	trashed.Parent = api.Stamp{Time: 0, Rep: 1}
	return []api.Op{move(), style(), longest, shortest, least, none, trashed}
}

// badOps are valid but for one thing.
func badOps() []api.Op {
	var out []api.Op
	bad := func(o api.Op, change func(o *api.Op)) {
		change(&o)
		out = append(out, o)
	}
	for _, base := range []func() api.Op{move, style} {
		bad(base(), func(o *api.Op) { *o = api.Op{} })
		bad(base(), func(o *api.Op) { o.Stamp = api.Stamp{} })
		bad(base(), func(o *api.Op) { o.Stamp.Rep = 4 })
		bad(base(), func(o *api.Op) { o.Stamp.Time = api.MaxTime + 1 })
		bad(base(), func(o *api.Op) { o.Seq++ })
		bad(base(), func(o *api.Op) { o.Seq = 0 })
		bad(base(), func(o *api.Op) { o.Deps = nil })
		bad(base(), func(o *api.Op) { o.Deps = o.Deps[:2] })
		bad(base(), func(o *api.Op) { o.Deps[0] = -1 })
		bad(base(), func(o *api.Op) { o.Kind = api.OpNone })
		bad(base(), func(o *api.Op) { o.Kind = 3 - o.Kind })
		bad(base(), func(o *api.Op) { o.Kind = 3 })
		bad(base(), func(o *api.Op) { o.Node = api.Stamp{} })
	}
	bad(move(), func(o *api.Op) { o.Parent = api.Stamp{Time: 0, Rep: 2} })
	bad(move(), func(o *api.Op) { o.Key = "" })
	bad(move(), func(o *api.Op) { o.Key = "a\x00" })
	bad(move(), func(o *api.Op) { o.Key = strings.Repeat("k", 65) })
	bad(move(), func(o *api.Op) { o.Prop = api.PropWidth })
	bad(move(), func(o *api.Op) { o.Value = 1 })
	bad(style(), func(o *api.Op) { o.Prop = api.Props })
	bad(style(), func(o *api.Op) { o.Value = -2 })
	bad(style(), func(o *api.Op) { o.Parent = api.Stamp{Time: 9, Rep: 1} })
	bad(style(), func(o *api.Op) { o.Key = "k" })
	return out
}

// goodFrames are valid: each field at its edges, and mixed ones.
func goodFrames() []api.Frame {
	var out []api.Frame
	good := func(base api.Frame, change func(f *api.Frame)) { out = append(out, changed(base, change)) }
	for _, base := range []api.Frame{ask(), ops()} {
		for from := range api.MaxReps {
			for to := range api.MaxReps {
				if from != to {
					good(base, func(f *api.Frame) { f.From, f.To = from, to })
				}
			}
		}
	}
	for _, v := range goodHaves() {
		good(ask(), func(f *api.Frame) { f.Have = v })
	}
	for n := 1; n <= api.MaxBatch; n++ {
		good(ops(), func(f *api.Frame) { f.Ops = batch(n) })
		for _, o := range goodOps() {
			good(ops(), func(f *api.Frame) { f.Ops = slices.Repeat([]api.Op{o}, n) })
			good(ops(), func(f *api.Frame) { f.Ops = append(batch(n-1), o) })
		}
	}
	good(ask(), func(f *api.Frame) { f.Ops = []api.Op{} })
	good(ops(), func(f *api.Frame) { f.Have = []int{} })
	return append(out, mixedFrames(100)...)
}

// mixedFrames are n valid frames of both kinds with parts of all sizes.
func mixedFrames(n int) []api.Frame {
	var out []api.Frame
	for i := range n {
		words := spread(uint64(i), 32)
		f := api.Frame{From: int(words[0] % 16)}
		f.To = (f.From + 1 + int(words[1]%15)) % 16
		if i%2 == 0 {
			f.Kind = api.FrameAsk
			for at := range 1 + words[2]%16 {
				f.Have = append(f.Have, int(words[3+at]>>25)>>(words[3+at]%39))
			}
		} else {
			f.Kind = api.FrameOps
			for at := range 1 + words[2]%8 {
				f.Ops = append(f.Ops, goodOps()[words[3+at]%7])
			}
		}
		out = append(out, f)
	}
	return out
}

// badNumbers are no replicas.
func badNumbers() []int {
	return []int{-1, -2, 16, 17, 127, 128, 256, 1 << 32, math.MinInt, math.MaxInt}
}

// badFrames are valid but for one thing.
func badFrames() []api.Frame {
	var out []api.Frame
	bad := func(base api.Frame, change func(f *api.Frame)) { out = append(out, changed(base, change)) }
	for _, base := range []api.Frame{ask(), ops()} {
		for _, n := range badNumbers() {
			bad(base, func(f *api.Frame) { f.From = n })
			bad(base, func(f *api.Frame) { f.To = n })
			bad(base, func(f *api.Frame) { f.From, f.To = n, n })
		}
		for rep := range api.MaxReps {
			bad(base, func(f *api.Frame) { f.From, f.To = rep, rep })
		}
		for _, kind := range []int{api.FrameNone, 3, 4, -1, -2, 256 + base.Kind, 1<<32 + base.Kind, math.MaxInt, math.MinInt, 3 - base.Kind} {
			bad(base, func(f *api.Frame) { f.Kind = kind })
		}
	}
	for _, v := range badHaves() {
		bad(ask(), func(f *api.Frame) { f.Have = v })
		if len(v) > 0 {
			bad(ops(), func(f *api.Frame) { f.Have = v })
		}
	}
	for _, v := range goodHaves() {
		bad(ops(), func(f *api.Frame) { f.Have = v })
	}
	for n := 1; n <= api.MaxBatch; n++ {
		bad(ask(), func(f *api.Frame) { f.Ops = batch(n) })
	}
	for _, n := range []int{0, 9, 10, 16, 128, 1000} {
		bad(ops(), func(f *api.Frame) { f.Ops = batch(n) })
	}
	for _, o := range badOps() {
		bad(ask(), func(f *api.Frame) { f.Ops = []api.Op{o} })
		for n := 1; n <= api.MaxBatch; n++ {
			for at := range n {
				bad(ops(), func(f *api.Frame) { f.Ops = batch(n); f.Ops[at] = o })
			}
		}
	}
	return append(out, api.Frame{}, api.Frame{From: 1}, api.Frame{To: 1})
}

// nums encodes numbers by the library.
func nums(numbers ...int) []byte {
	var out []byte
	for _, n := range numbers {
		out = binary.AppendUvarint(out, uint64(n))
	}
	return out
}

// plainOp encodes o, which need not be valid.
func plainOp(o api.Op) []byte {
	out := slices.Concat(nums(o.Stamp.Time, o.Stamp.Rep, len(o.Deps)), nums(o.Deps...), nums(o.Kind, o.Node.Time, o.Node.Rep))
	if o.Kind == api.OpMove {
		return slices.Concat(out, nums(o.Parent.Time, o.Parent.Rep, len(o.Key)), []byte(o.Key))
	}
	return append(out, nums(o.Prop, o.Value+1)...)
}

// plainParts encodes each part of the body of f, which need not be valid, in its order; of FrameOps the number of Ops is a part, and each of them.
func plainParts(f api.Frame) [][]byte {
	parts := [][]byte{nums(f.From), nums(f.To), nums(f.Kind)}
	if f.Kind == api.FrameAsk {
		return append(parts, append(nums(len(f.Have)), nums(f.Have...)...))
	}
	parts = append(parts, nums(len(f.Ops)))
	for _, o := range f.Ops {
		parts = append(parts, plainOp(o))
	}
	return parts
}

func plainBody(f api.Frame) []byte {
	return slices.Concat(plainParts(f)...)
}

// sealed returns a body behind its checksum, by the library.
func sealed(body []byte) []byte {
	return append(binary.BigEndian.AppendUint32(nil, crc32.ChecksumIEEE(body)), body...)
}

func plainBytes(f api.Frame) []byte {
	return sealed(plainBody(f))
}

// same tells whether a and b are equal in every field; no list and an empty one are.
func same(a, b api.Frame) bool {
	if !slices.Equal(a.Have, b.Have) || !slices.EqualFunc(a.Ops, b.Ops, sameOp) {
		return false
	}
	a.Have, b.Have, a.Ops, b.Ops = nil, nil, nil, nil
	return reflect.DeepEqual(a, b)
}

func sameOp(a, b api.Op) bool {
	if !slices.Equal(a.Deps, b.Deps) {
		return false
	}
	a.Deps, b.Deps = nil, nil
	return reflect.DeepEqual(a, b)
}

func wantCheck(t *testing.T, f api.Frame, e api.Errno) {
	t.Helper()
	if got := Check(f); got != e {
		t.Errorf("Check(%+v): %d, want %d", f, got, e)
	}
}

func wantBytes(t *testing.T, f api.Frame, b []byte, e api.Errno) {
	t.Helper()
	if gotB, gotE := Bytes(f); !bytes.Equal(gotB, b) || gotE != e {
		t.Errorf("Bytes(%+v): %v, %d, want %v, %d", f, gotB, gotE, b, e)
	}
}

func wantParse(t *testing.T, b []byte, f api.Frame, e api.Errno) {
	t.Helper()
	if gotF, gotE := Parse(b); !same(gotF, f) || gotE != e {
		t.Errorf("Parse(%v): %+v, %d, want %+v, %d", b, gotF, gotE, f, e)
	}
}

func wantRefused(t *testing.T, b []byte, e api.Errno) {
	t.Helper()
	wantParse(t, b, api.Frame{}, e)
}

// P11.1

func TestCheckOfValidFrames(t *testing.T) {
	for _, f := range goodFrames() {
		wantCheck(t, f, api.OK)
	}
}

func TestCheckAndBytesRefuseWhatIsNotValid(t *testing.T) {
	for _, f := range badFrames() {
		wantCheck(t, f, api.ErrForm)
		wantBytes(t, f, nil, api.ErrForm)
	}
}

func TestFromAndTo(t *testing.T) {
	for _, base := range []api.Frame{ask(), ops()} {
		for from := -2; from < 19; from++ {
			for to := -2; to < 19; to++ {
				want := api.ErrForm
				if from >= 0 && from <= 15 && to >= 0 && to <= 15 && from != to {
					want = api.OK
				}
				wantCheck(t, changed(base, func(f *api.Frame) { f.From, f.To = from, to }), want)
			}
		}
	}
}

func TestHowManyOps(t *testing.T) {
	for n := range 20 {
		want := api.ErrForm
		if n >= 1 && n <= 8 {
			want = api.OK
		}
		wantCheck(t, changed(ops(), func(f *api.Frame) { f.Ops = batch(n) }), want)
	}
}

// The operations need not belong together, nor be the sender's, nor come in an order.
func TestOpsOfAnyKind(t *testing.T) {
	for _, a := range goodOps() {
		for _, b := range goodOps() {
			f := changed(ops(), func(f *api.Frame) { f.Ops = []api.Op{a, b, a} })
			wantCheck(t, f, api.OK)
			wantBytes(t, f, plainBytes(f), api.OK)
		}
	}
}

func TestBytesOfExamples(t *testing.T) {
	asking := api.Frame{From: 0, To: 1, Kind: api.FrameAsk, Have: []int{5}}
	wantBytes(t, asking, sealed([]byte{0, 1, 1, 1, 5}), api.OK)
	asking = api.Frame{From: 15, To: 0, Kind: api.FrameAsk, Have: []int{5, 0, 300}}
	wantBytes(t, asking, sealed([]byte{15, 0, 1, 3, 5, 0, 172, 2}), api.OK)
	first := api.Op{Stamp: api.Stamp{Time: 1}, Seq: 1, Deps: []int{0}, Kind: api.OpMove, Node: api.Stamp{Time: 1}, Key: "\x80"}
	giving := api.Frame{From: 2, To: 14, Kind: api.FrameOps, Ops: []api.Op{first}}
	wantBytes(t, giving, sealed([]byte{2, 14, 2, 1, 1, 0, 1, 0, 1, 1, 0, 0, 0, 1, 128}), api.OK)
	giving.Ops = append(giving.Ops, style())
	wantBytes(t, giving, sealed([]byte{2, 14, 2, 2, 1, 0, 1, 0, 1, 1, 0, 0, 0, 1, 128, 245, 3, 2, 4, 7, 172, 2, 41, 1, 2, 130, 1, 3, 3, 201, 1}), api.OK)
}

// The four bytes ahead are written out here: they hang on no other package.
func TestTheMostSignificantByteOfTheSumIsFirst(t *testing.T) {
	f := api.Frame{From: 0, To: 1, Kind: api.FrameAsk, Have: []int{5}}
	b, _ := Bytes(f)
	s := ^uint32(0)
	for _, c := range []byte{0, 1, 1, 1, 5} {
		s ^= uint32(c)
		for range 8 {
			if s&1 == 1 {
				s = s>>1 ^ 0xedb88320
			} else {
				s >>= 1
			}
		}
	}
	s = ^s
	if want := []byte{byte(s >> 24), byte(s >> 16), byte(s >> 8), byte(s), 0, 1, 1, 1, 5}; !bytes.Equal(b, want) {
		t.Errorf("Bytes(%+v): %v, want %v", f, b, want)
	}
	wantBytes(t, f, []byte{22, 45, 63, 129, 0, 1, 1, 1, 5}, api.OK)
	reversed := []byte{byte(s), byte(s >> 8), byte(s >> 16), byte(s >> 24), 0, 1, 1, 1, 5}
	wantRefused(t, reversed, api.ErrSum)
}

func TestBytesAreThePartsInTheirOrder(t *testing.T) {
	for _, f := range goodFrames() {
		wantBytes(t, f, plainBytes(f), api.OK)
	}
}

func TestBytesAreThoseOfTheLayersBelow(t *testing.T) {
	must := func(b []byte, e api.Errno) []byte {
		if e != api.OK {
			t.Fatal(e)
		}
		return b
	}
	for _, f := range goodFrames() {
		body := slices.Concat(must(code.Num(f.From)), must(code.Num(f.To)), must(code.Num(f.Kind)))
		if f.Kind == api.FrameAsk {
			body = append(body, must(have.Bytes(f.Have))...)
		} else {
			body = append(body, must(code.Num(len(f.Ops)))...)
			for _, o := range f.Ops {
				body = append(body, must(op.Bytes(o))...)
			}
		}
		s := sum.Sum(0, body)
		wantBytes(t, f, append([]byte{byte(s >> 24), byte(s >> 16), byte(s >> 8), byte(s)}, body...), api.OK)
	}
}

// P11.2

func TestParseOfValidFrames(t *testing.T) {
	for _, f := range goodFrames() {
		wantParse(t, plainBytes(f), f, api.OK)
	}
}

func TestParseOfFewerThanFourBytes(t *testing.T) {
	wantRefused(t, []byte{1, 2, 3}, api.ErrCut)
	whole := plainBytes(ask())
	for size := range 4 {
		wantRefused(t, make([]byte, size), api.ErrCut)
		wantRefused(t, bytes.Repeat([]byte{255}, size), api.ErrCut)
		wantRefused(t, whole[:size:size], api.ErrCut)
		// What lies behind the end, in the slice's spare capacity, is not read.
		wantRefused(t, whole[:size], api.ErrCut)
	}
	wantRefused(t, nil, api.ErrCut)
}

// Four bytes are the sum of no body at all.
func TestParseOfFourBytes(t *testing.T) {
	wantRefused(t, []byte{0, 0, 0, 0}, api.ErrForm)
	for at := range 4 {
		for bit := range 8 {
			b := make([]byte, 4)
			b[at] = 1 << bit
			wantRefused(t, b, api.ErrSum)
		}
	}
	wantRefused(t, []byte{255, 255, 255, 255}, api.ErrSum)
}

func TestParseOfAWrongSum(t *testing.T) {
	for _, f := range []api.Frame{ask(), ops()} {
		body := plainBody(f)
		right := crc32.ChecksumIEEE(body)
		for _, wrong := range []uint32{0, 1, ^right, right + 1, right - 1, right ^ 1<<31, right << 8, right >> 8, right<<16 | right>>16, math.MaxUint32, crc32.Checksum(body, crc32.MakeTable(crc32.Castagnoli)), crc32.ChecksumIEEE(body[1:])} {
			wantRefused(t, append(binary.BigEndian.AppendUint32(nil, wrong), body...), api.ErrSum)
		}
		wantRefused(t, append(binary.LittleEndian.AppendUint32(nil, right), body...), api.ErrSum)
	}
}

// A wrong sum goes ahead of a wrong body.
func TestAWrongSumGoesFirst(t *testing.T) {
	for _, f := range []api.Frame{ask(), ops()} {
		b := plainBytes(f)
		for end := 4; end < len(b); end++ {
			wantRefused(t, b[:end], api.ErrSum)
		}
		for behind := range 256 {
			wantRefused(t, append(slices.Clone(b), byte(behind)), api.ErrSum)
		}
	}
	for _, f := range undone() {
		b := plainBytes(f)
		b[2] ^= 16
		wantRefused(t, b, api.ErrSum)
	}
}

func TestParseOfABodyCutShort(t *testing.T) {
	for _, f := range goodFrames() {
		body := plainBody(f)
		if len(body) > 600 {
			continue
		}
		for end := range body {
			wantRefused(t, sealed(body[:end]), api.ErrForm)
		}
	}
}

func TestParseOfABodyWithBytesBehind(t *testing.T) {
	for _, f := range goodFrames() {
		body := plainBody(f)
		for _, behind := range [][]byte{{0}, {1}, {128}, {255}, {0, 0, 0, 0}, body, plainOp(move()), nums(0)} {
			wantRefused(t, sealed(slices.Concat(body, behind)), api.ErrForm)
		}
	}
}

// wrongNumbers are bytes of which no number can be decoded: cut short, with a needless group, of too many bytes, too great.
func wrongNumbers() [][]byte {
	return [][]byte{{}, {128}, {255, 255}, {128, 0}, {129, 0}, {255, 128, 0}, {255, 255, 255, 255, 255, 255, 255, 255, 255, 1}, {129, 128, 128, 128, 128, 128, 128, 128, 64}}
}

// wrongParts returns for each part of the body of such a frame what can stand in its place and is wrong.
func wrongParts(f api.Frame) [][][]byte {
	number := wrongNumbers()
	for _, n := range []int{16, 17, 127, 128, 256 + 12, 1<<32 + 3, 1 << 62} {
		number = append(number, nums(n))
	}
	from, to := slices.Concat(number, [][]byte{nums(f.To)}), slices.Concat(number, [][]byte{nums(f.From)})
	kind := append(wrongNumbers(), nums(0), nums(3), nums(127), nums(256+f.Kind), nums(1<<32+f.Kind), nums(1<<62))
	if f.Kind == api.FrameAsk {
		vector := append(wrongNumbers(), nums(0), nums(1), nums(2, 7), nums(1, api.MaxTime+1), append(nums(17), make([]byte, 17)...), nums(1<<10), append(nums(1<<10), make([]byte, 1<<10)...), nums(1<<10+1), nums(1<<62), append(nums(2, 7), 130, 0))
		return [][][]byte{from, to, kind, vector}
	}
	count := append(wrongNumbers(), nums(0), nums(1), nums(3), nums(8), nums(9), nums(128), nums(256+2), nums(1<<32+2), nums(1<<62))
	return [][][]byte{from, to, kind, count, wrongOps(move()), wrongOps(style())}
}

// wrongOps are o with a byte too many, without its Stamp, nothing at all, and o with what no valid operation has. (Cut short, what follows might by chance complete it.)
func wrongOps(o api.Op) [][]byte {
	b := plainOp(o)
	out := [][]byte{append(slices.Clone(b), 0), append([]byte{0}, b...), b[3:], {}}
	for _, bad := range badOps() {
		if bad.Seq == o.Seq && bad.Kind == o.Kind && decodable(bad) {
			out = append(out, plainOp(bad))
		}
	}
	return out
}

// decodable tells whether the fields of o, which is not valid, can stand in an encoding, and make it a wrong one.
func decodable(o api.Op) bool {
	return slices.Min(append(slices.Clone(o.Deps), o.Value+1)) >= 0 && (o.Kind == api.OpMove && o.Prop == 0 && o.Value == 0 || o.Kind == api.OpStyle && o.Key == "" && o.Parent == api.Stamp{})
}

func TestParseOfEachPartWrong(t *testing.T) {
	for _, f := range []api.Frame{ask(), ops()} {
		parts := plainParts(f)
		for at, wrongs := range wrongParts(f) {
			for _, w := range wrongs {
				before, behind := slices.Concat(parts[:at]...), slices.Concat(parts[at+1:]...)
				wantRefused(t, sealed(slices.Concat(before, w, behind)), api.ErrForm)
				wantRefused(t, sealed(slices.Concat(before, w)), api.ErrForm)
			}
		}
	}
}

// undone returns frames that are not valid, each part of which can be decoded.
func undone() []api.Frame {
	var out []api.Frame
	bad := func(base api.Frame, change func(f *api.Frame)) { out = append(out, changed(base, change)) }
	for _, base := range []api.Frame{ask(), ops()} {
		for _, n := range []int{16, 17, 127, 128, 1 << 62} {
			bad(base, func(f *api.Frame) { f.From = n })
			bad(base, func(f *api.Frame) { f.To = n })
		}
		for rep := range api.MaxReps {
			bad(base, func(f *api.Frame) { f.From, f.To = rep, rep })
		}
		bad(base, func(f *api.Frame) { f.Kind = api.FrameNone })
		bad(base, func(f *api.Frame) { f.Kind = 3 })
	}
	for _, v := range badHaves() {
		if len(v) == 0 || slices.Min(v) >= 0 && slices.Max(v) <= 1<<62 {
			bad(ask(), func(f *api.Frame) { f.Have = v })
		}
	}
	for _, n := range []int{0, 9, 10, 16, 128, 1000} {
		bad(ops(), func(f *api.Frame) { f.Ops = batch(n) })
	}
	for _, o := range badOps() {
		if len(o.Deps) > 0 && decodable(o) && o.Seq == o.Deps[2%len(o.Deps)]+1 {
			for at := range api.MaxBatch {
				bad(ops(), func(f *api.Frame) { f.Ops = batch(api.MaxBatch); f.Ops[at] = o })
			}
		}
	}
	return out
}

func TestParseOfPartsThatAreNoFrame(t *testing.T) {
	if n := len(undone()); n < 100 {
		t.Errorf("only %d frames are undone", n)
	}
	for _, f := range undone() {
		wantCheck(t, f, api.ErrForm)
		wantRefused(t, plainBytes(f), api.ErrForm)
	}
}

// A kind's content behind another kind, and both contents one behind the other.
func TestParseOfTheOtherKindsContent(t *testing.T) {
	asked, given := plainParts(ask()), plainParts(ops())
	swapped := slices.Concat(slices.Concat(asked[:2]...), given[2], asked[3])
	wantRefused(t, sealed(swapped), api.ErrForm)
	swapped = slices.Concat(slices.Concat(given[:2]...), asked[2], slices.Concat(given[3:]...))
	wantRefused(t, sealed(swapped), api.ErrForm)
	wantRefused(t, sealed(slices.Concat(plainBody(ask()), slices.Concat(given[3:]...))), api.ErrForm)
	wantRefused(t, sealed(slices.Concat(plainBody(ops()), asked[3])), api.ErrForm)
	wantRefused(t, sealed(slices.Concat(plainBody(ask()), plainBody(ops()))), api.ErrForm)
}

func TestParseOfTwoFrames(t *testing.T) {
	for _, a := range []api.Frame{ask(), ops()} {
		for _, b := range []api.Frame{ask(), ops()} {
			wantRefused(t, slices.Concat(plainBytes(a), plainBytes(b)), api.ErrSum)
			wantRefused(t, sealed(slices.Concat(plainBody(a), plainBody(b))), api.ErrForm)
			wantRefused(t, sealed(plainBytes(a)), api.ErrForm)
		}
	}
}

// P11.3

func TestWhatIsEncodedIsParsed(t *testing.T) {
	for _, f := range goodFrames() {
		b, e := Bytes(f)
		if e != api.OK {
			t.Errorf("Bytes(%+v): %d", f, e)
		}
		wantParse(t, b, f, api.OK)
	}
}

// What can be parsed was encoded exactly so: bodies near those of frames, and others, behind their right sums.
func TestWhatIsParsedWasEncodedSo(t *testing.T) {
	parsed := 0
	encodedAgain := func(body []byte) {
		b := sealed(body)
		f, e := Parse(b)
		if e != api.OK {
			if e != api.ErrForm || !same(f, api.Frame{}) {
				t.Errorf("Parse(%v): %+v, %d", b, f, e)
			}
			return
		}
		parsed++
		wantCheck(t, f, api.OK)
		wantBytes(t, f, b, api.OK)
	}
	for _, f := range append(mixedFrames(12), ask(), ops()) {
		body := plainBody(f)
		for at := range min(len(body), 200) {
			for value := range 256 {
				near := slices.Clone(body)
				near[at] = byte(value)
				encodedAgain(near)
			}
			encodedAgain(slices.Delete(slices.Clone(body), at, at+1))
			encodedAgain(slices.Insert(slices.Clone(body), at, 0))
			encodedAgain(slices.Insert(slices.Clone(body), at, 1))
			encodedAgain(slices.Insert(slices.Clone(body), at, 128))
		}
	}
	for seed := range 20000 {
		words := spread(uint64(seed), 16)
		var body []byte
		for _, word := range words[:3+words[15]%13] {
			body = append(body, byte(word%4))
		}
		encodedAgain(body)
	}
	if parsed < 1000 {
		t.Errorf("only %d were frames", parsed)
	}
}

func TestOneBitChanged(t *testing.T) {
	for _, f := range append(mixedFrames(10), ask(), ops(), changed(ops(), func(f *api.Frame) { f.Ops = batch(8) })) {
		b, _ := Bytes(f)
		for at := range b {
			for bit := range 8 {
				b[at] ^= 1 << bit
				wantRefused(t, b, api.ErrSum)
				b[at] ^= 1 << bit
			}
		}
		wantParse(t, b, f, api.OK)
	}
}

func TestDifferentFramesHaveDifferentBytes(t *testing.T) {
	seen := map[string]api.Frame{}
	for _, f := range goodFrames() {
		b, _ := Bytes(f)
		if other, ok := seen[string(b)]; ok && !same(f, other) {
			t.Errorf("%+v and %+v: %v", f, other, b)
		}
		seen[string(b)] = f
	}
}

// R1 and R2

// spacious returns f with lists of the same elements, and with others in their spare capacity.
func spacious(f api.Frame) api.Frame {
	f.Have = append(slices.Clone(f.Have), 77, 78)[:len(f.Have)]
	f.Ops = append(slices.Clone(f.Ops), move())[:len(f.Ops)]
	for i, o := range f.Ops {
		f.Ops[i].Deps = append(slices.Clone(o.Deps), 77, 78)[:len(o.Deps)]
	}
	return f
}

func TestArgumentsAreNotChanged(t *testing.T) {
	for _, f := range append(goodFrames(), badFrames()...) {
		given := spacious(f)
		Check(given)
		Bytes(given)
		if !same(given, f) {
			t.Errorf("%+v is now %+v", f, given)
		}
		if behind := given.Have[len(f.Have) : len(f.Have)+2]; !slices.Equal(behind, []int{77, 78}) {
			t.Errorf("behind Have of %+v: %v", f, behind)
		}
		if behind := given.Ops[:len(f.Ops)+1][len(f.Ops)]; !sameOp(behind, move()) {
			t.Errorf("behind Ops of %+v: %+v", f, behind)
		}
		for _, o := range given.Ops {
			if behind := o.Deps[len(o.Deps) : len(o.Deps)+2]; !slices.Equal(behind, []int{77, 78}) {
				t.Errorf("behind Deps of %+v: %v", o, behind)
			}
		}
	}
	for _, f := range append(goodFrames(), undone()...) {
		b := append(plainBytes(f), 77, 78)
		before := slices.Clone(b)
		Parse(b[:len(b)-2])
		if !bytes.Equal(b, before) {
			t.Errorf("the bytes of %+v are now %v", f, b)
		}
	}
}

func TestBytesAreNewMemory(t *testing.T) {
	for _, f := range []api.Frame{ask(), ops()} {
		first, _ := Bytes(f)
		second, _ := Bytes(f)
		clear(first[:cap(first)])
		if want := plainBytes(f); !bytes.Equal(second, want) {
			t.Errorf("Bytes shares memory: %v", second)
		}
		wantBytes(t, f, plainBytes(f), api.OK)
	}
}

// overwrite writes into every list of f, their spare capacity among it.
func overwrite(f api.Frame) {
	for _, o := range f.Ops {
		for i := range o.Deps[:cap(o.Deps)] {
			o.Deps[:cap(o.Deps)][i] = -9
		}
	}
	clear(f.Ops[:cap(f.Ops)])
	clear(f.Have[:cap(f.Have)])
}

func TestParsedFramesAreNewMemory(t *testing.T) {
	for _, f := range []api.Frame{ask(), ops(), changed(ops(), func(f *api.Frame) { f.Ops = batch(8) })} {
		b := plainBytes(f)
		x, _ := Parse(b)
		y, _ := Parse(b)
		overwrite(x)
		if !same(y, f) {
			t.Errorf("two frames share memory: %+v", y)
		}
		if !bytes.Equal(b, plainBytes(f)) {
			t.Errorf("the frame shares memory with the bytes: %v", b)
		}
		clear(b)
		if !same(y, f) {
			t.Errorf("the frame shares memory with the bytes: %+v", y)
		}
	}
}

func TestOpsOfAParsedFrameShareNothing(t *testing.T) {
	f := changed(ops(), func(f *api.Frame) { f.Ops = batch(8) })
	for at := range f.Ops {
		got, _ := Parse(plainBytes(f))
		deps := got.Ops[at].Deps
		for i := range deps[:cap(deps)] {
			deps[:cap(deps)][i] = -9
		}
		got.Ops[at] = f.Ops[at]
		if !same(got, f) {
			t.Errorf("the operation at %d shares its Deps: %+v", at, got)
		}
	}
}

func TestEqualCallsGiveEqualResults(t *testing.T) {
	for _, f := range goodFrames() {
		first, e := Bytes(f)
		wantBytes(t, f, first, e)
		x, g := Parse(first)
		wantParse(t, first, x, g)
	}
}

func TestLargeInputs(t *testing.T) {
	wantCheck(t, changed(ask(), func(f *api.Frame) { f.Have = make([]int, 1<<22) }), api.ErrForm)
	wantCheck(t, changed(ops(), func(f *api.Frame) { f.Ops = slices.Repeat([]api.Op{move()}, 1<<18) }), api.ErrForm)
	wantRefused(t, make([]byte, 1<<24), api.ErrSum)
	for _, body := range [][]byte{make([]byte, 1<<22), bytes.Repeat([]byte{255}, 1<<22), append(plainBody(ask()), make([]byte, 1<<22)...), append(nums(0, 1, 2, 1<<20), bytes.Repeat(plainOp(move()), 1<<18)...)} {
		wantRefused(t, sealed(body), api.ErrForm)
	}
}
