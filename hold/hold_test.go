package hold

import (
	"math"
	"reflect"
	"slices"
	"strings"
	"testing"

	"arras/api"
)

// spread returns n words, the same in every run.
func spread(seed uint64, n int) []uint64 {
	out := make([]uint64, n)
	for i := range out {
		seed = seed*6364136223846793005 + 1442695040888963407
		out[i] = seed>>17 ^ seed<<29
	}
	return out
}

// made returns the operation that a replica that had deps issued at that time: a move or a style, and different in every field from others.
func made(time, rep int, deps ...int) api.Op {
	o := api.Op{Stamp: api.Stamp{Time: time, Rep: rep}, Seq: deps[rep] + 1, Deps: slices.Clone(deps), Node: api.Stamp{Time: 1 + time/2, Rep: rep}}
	if time%2 == 0 {
		o.Kind, o.Parent, o.Key = api.OpMove, api.Stamp{Time: 1 + time%5, Rep: 1}, strings.Repeat("k", 1+time%9)
	} else {
		o.Kind, o.Prop, o.Value = api.OpStyle, api.PropWidth, time
	}
	return o
}

// changed returns o with a change; its Deps are its own.
func changed(o api.Op, change func(o *api.Op)) api.Op {
	o.Deps = slices.Clone(o.Deps)
	change(&o)
	return o
}

// apart returns operations in memory of their own.
func apart(ops ...api.Op) []api.Op {
	var out []api.Op
	for _, o := range ops {
		out = append(out, changed(o, func(*api.Op) {}))
	}
	return out
}

// row returns n operations of replica 1 for a vector of two: they wait for one another, and the first of them for its replica's first operation. Their times begin with 10, and replica 0 is known up to five.
func row(n int) []api.Op {
	var out []api.Op
	for i := range n {
		out = append(out, made(10+i, 1, 5, 1+i))
	}
	return out
}

func badVectors() [][]int {
	out := [][]int{nil, {}, {-1}, {api.MaxTime + 1}, {math.MinInt}, {math.MaxInt}, make([]int, 17), make([]int, 1<<10)}
	for at := range 2 {
		for _, n := range []int{-1, api.MaxTime + 1, math.MinInt, math.MaxInt} {
			v := []int{2, 2}
			v[at] = n
			out = append(out, v)
		}
	}
	return out
}

// badOps are not valid, for one reason each, or have Deps of another length than two; but for that they are known to the vector 2, 2, or ready for it, or wait.
func badOps() []api.Op {
	var out []api.Op
	for _, base := range []api.Op{made(20, 0, 1, 2), made(20, 0, 2, 2), made(21, 1, 2, 2), made(20, 0, 3, 2), made(20, 0, 2, 3), made(21, 1, 3, 3)} {
		bad := func(change func(o *api.Op)) { out = append(out, changed(base, change)) }
		bad(func(o *api.Op) { *o = api.Op{} })
		for _, time := range []int{0, -1, api.MaxTime + 1, math.MinInt, math.MaxInt} {
			bad(func(o *api.Op) { o.Stamp.Time = time })
		}
		for _, rep := range []int{-1, 2, 15, 16, math.MinInt, math.MaxInt} {
			bad(func(o *api.Op) { o.Stamp.Rep = rep })
		}
		for _, by := range []int{-1, 1, -base.Seq, 1000, math.MinInt, math.MaxInt} {
			bad(func(o *api.Op) { o.Seq += by })
		}
		bad(func(o *api.Op) { o.Deps[o.Stamp.Rep]++ })
		bad(func(o *api.Op) { o.Deps[o.Stamp.Rep]-- })
		for _, n := range []int{-1, api.MaxTime + 1, math.MinInt, math.MaxInt} {
			bad(func(o *api.Op) { o.Deps[1-o.Stamp.Rep] = n })
		}
		for _, size := range []int{3, 16, 17, 1 << 10} {
			bad(func(o *api.Op) { o.Deps = append(o.Deps, make([]int, size-2)...) })
		}
		bad(func(o *api.Op) { o.Deps = o.Deps[:1] })
		bad(func(o *api.Op) { o.Deps = nil })
		bad(func(o *api.Op) { o.Kind = api.OpNone })
		bad(func(o *api.Op) { o.Kind = 3 - o.Kind })
		bad(func(o *api.Op) { o.Node = api.Stamp{} })
		bad(func(o *api.Op) { o.Key = "a\x00" })
		bad(func(o *api.Op) { o.Prop = api.Props })
	}
	return out
}

// badLists are no lists of held operations for the vector 2, 2, for one reason each.
func badLists() [][]api.Op {
	one, two, three := made(11, 0, 3, 0), made(12, 1, 3, 2), made(13, 0, 4, 0)
	out := [][]api.Op{
		// Stamps that are equal, or descend.
		{one, one}, {one, made(11, 0, 4, 0)}, {one, two, made(12, 1, 0, 3)}, {two, one}, {one, three, two}, {three, one}, {made(11, 1, 3, 2), one}, {two, three, one},
		// Two with the same Rep and Seq.
		{one, made(12, 0, 3, 0)}, {one, two, made(13, 0, 3, 1)}, {one, two, three, made(14, 1, 4, 2)},
		// Ready.
		{made(11, 0, 2, 0)}, {made(11, 0, 2, 2)}, {made(11, 1, 0, 2)}, {one, made(12, 1, 2, 2)}, {made(10, 0, 2, 1), one, two}, {one, made(12, 1, 1, 2), three},
	}
	for _, seq := range []int{1, 2} {
		// Known already, whether v covers the Deps or not.
		out = append(out, []api.Op{made(11, 0, seq-1, 0)}, []api.Op{made(11, 0, seq-1, 9)}, []api.Op{made(11, 1, 9, seq-1)}, []api.Op{one, made(12, 1, 3, seq-1), three}, []api.Op{one, two, made(13, 0, seq-1, 3)})
	}
	for _, o := range badOps() {
		out = append(out, []api.Op{o}, []api.Op{o, o}, []api.Op{one, o}, []api.Op{one, two, three, o}, []api.Op{o, made(40, 1, 9, 9), made(41, 0, 9, 9)})
	}
	// Too many.
	var many []api.Op
	for i := range 100 {
		many = append(many, made(10+i, i%2, 5+i, 5+i))
	}
	return append(out, many[:17], many[:18], many[:33], many)
}

// goodLists are lists of held operations for the vector 2, 2.
func goodLists() [][]api.Op {
	one, two, three := made(11, 0, 3, 0), made(12, 1, 3, 2), made(13, 0, 4, 0)
	return [][]api.Op{nil, {}, {one}, {two}, {three}, {one, two}, {one, three}, {one, two, three}, {made(11, 1, 9, 2), made(12, 0, 2, 9)}, {made(11, 0, 9, 9), made(11, 1, 9, 9)}, {made(11, 0, 9, 0), made(12, 0, 4, 0)}, {made(api.MaxTime-1, 0, 9, 9), made(api.MaxTime, 1, api.MaxTime, api.MaxTime-1)}}
}

// plainReady, plainCheck and plainTake are what the document says of vectors and valid operations, word by word.
func plainReady(v []int, o api.Op) bool {
	for i, n := range o.Deps {
		if n > v[i] {
			return false
		}
	}
	return v[o.Stamp.Rep] == o.Seq-1
}

func before(a, b api.Op) bool {
	return a.Stamp.Time < b.Stamp.Time || a.Stamp.Time == b.Stamp.Time && a.Stamp.Rep < b.Stamp.Rep
}

func sameSeq(a, b api.Op) bool {
	return a.Stamp.Rep == b.Stamp.Rep && a.Seq == b.Seq
}

func plainCheck(v []int, held []api.Op) api.Errno {
	if len(held) > 16 {
		return api.ErrForm
	}
	for i, o := range held {
		if i > 0 && !before(held[i-1], o) || o.Seq <= v[o.Stamp.Rep] || plainReady(v, o) {
			return api.ErrForm
		}
		for _, other := range held[:i] {
			if sameSeq(other, o) {
				return api.ErrForm
			}
		}
	}
	return api.OK
}

func plainTake(v []int, held []api.Op, o api.Op) (w []int, still, taken []api.Op, e api.Errno) {
	w, still = slices.Clone(v), apart(held...)
	if v[o.Stamp.Rep] >= o.Seq || slices.ContainsFunc(held, func(h api.Op) bool { return sameSeq(h, o) }) {
		return w, still, nil, api.OK
	}
	if !plainReady(v, o) {
		if len(held) == 16 || slices.ContainsFunc(held, func(h api.Op) bool { return h.Stamp == o.Stamp }) {
			return nil, nil, nil, api.ErrFull
		}
		return w, hold(still, o), nil, api.OK
	}
	w[o.Stamp.Rep], taken = o.Seq, apart(o)
	for i := 0; i < len(still); i++ {
		if h := still[i]; plainReady(w, h) {
			w[h.Stamp.Rep], taken = h.Seq, append(taken, h)
			still, i = slices.Delete(still, i, i+1), -1
		}
	}
	return w, slices.DeleteFunc(still, func(h api.Op) bool { return h.Seq <= w[h.Stamp.Rep] }), taken, api.OK
}

// hold returns held with o among them.
func hold(held []api.Op, o api.Op) []api.Op {
	out := apart(append(apart(held...), o)...)
	slices.SortStableFunc(out, func(a, b api.Op) int {
		if before(a, b) {
			return -1
		}
		return 1
	})
	return out
}

// same tells whether a and b are equal in every field; no list and an empty one are.
func same(a, b []api.Op) bool {
	return slices.EqualFunc(a, b, func(a, b api.Op) bool {
		if !slices.Equal(a.Deps, b.Deps) {
			return false
		}
		a.Deps, b.Deps = nil, nil
		return reflect.DeepEqual(a, b)
	})
}

func wantCheck(t *testing.T, v []int, held []api.Op, e api.Errno) {
	t.Helper()
	if got := Check(v, held); got != e {
		t.Errorf("Check(%v, %+v): %d, want %d", v, held, got, e)
	}
}

func wantReady(t *testing.T, v []int, o api.Op, is bool, e api.Errno) {
	t.Helper()
	if got, gotE := Ready(v, o); got != is || gotE != e {
		t.Errorf("Ready(%v, %+v): %v, %d, want %v, %d", v, o, got, gotE, is, e)
	}
}

func wantTake(t *testing.T, v []int, held []api.Op, o api.Op, w []int, still, taken []api.Op, e api.Errno) {
	t.Helper()
	gotW, gotStill, gotTaken, gotE := Take(v, held, o)
	if !slices.Equal(gotW, w) || !same(gotStill, still) || !same(gotTaken, taken) || gotE != e {
		t.Errorf("Take(%v, %+v, %+v): %v, %+v, %+v, %d, want %v, %+v, %+v, %d", v, held, o, gotW, gotStill, gotTaken, gotE, w, still, taken, e)
	}
	if gotE == api.OK {
		wantCheck(t, gotW, gotStill, api.OK)
	}
}

func wantRefused(t *testing.T, v []int, held []api.Op, o api.Op, e api.Errno) {
	t.Helper()
	wantTake(t, v, held, o, nil, nil, nil, e)
}

// wantNothing wants that o changes nothing.
func wantNothing(t *testing.T, v []int, held []api.Op, o api.Op) {
	t.Helper()
	wantTake(t, v, held, o, v, held, nil, api.OK)
}

func wantHeld(t *testing.T, v []int, held []api.Op, o api.Op) {
	t.Helper()
	wantTake(t, v, held, o, v, hold(held, o), nil, api.OK)
}

// P14.1

func TestCheckOfVectors(t *testing.T) {
	for _, v := range badVectors() {
		for _, held := range slices.Concat(goodLists(), badLists()) {
			wantCheck(t, v, held, api.ErrForm)
		}
	}
	for reps := 1; reps <= api.MaxReps; reps++ {
		for _, n := range []int{0, 1, 300, api.MaxTime} {
			wantCheck(t, slices.Repeat([]int{n}, reps), nil, api.OK)
			wantCheck(t, slices.Repeat([]int{n}, reps), []api.Op{}, api.OK)
		}
		v := slices.Repeat([]int{3}, reps)
		for rep := range reps {
			wants := changed(made(50, rep, v...), func(o *api.Op) { o.Deps[rep], o.Seq = 4, 5 })
			wantCheck(t, v, []api.Op{wants}, api.OK)
			wantCheck(t, v[:reps-1], []api.Op{wants}, api.ErrForm)
			wantCheck(t, append(slices.Clone(v), 3), []api.Op{wants}, api.ErrForm)
		}
	}
}

func TestCheckOfLists(t *testing.T) {
	for _, held := range goodLists() {
		wantCheck(t, []int{2, 2}, held, api.OK)
	}
	for _, held := range badLists() {
		wantCheck(t, []int{2, 2}, held, api.ErrForm)
	}
}

func TestCheckOfHowManyAreHeld(t *testing.T) {
	for n := range 40 {
		want := api.OK
		if n > 16 {
			want = api.ErrForm
		}
		wantCheck(t, []int{0, 0}, row(n), want)
		wantCheck(t, []int{5, 0}, row(n), want)
	}
}

func TestCheckOfSeq(t *testing.T) {
	for at := range 20 {
		// What is held is 10 of replica 1, which lacks 5 of replica 0.
		o := made(30, 1, 5, 9)
		lacking, covering := api.OK, api.OK
		if at >= 10 {
			lacking, covering = api.ErrForm, api.ErrForm
		}
		if at == 9 {
			covering = api.ErrForm // it is ready
		}
		wantCheck(t, []int{4, at}, []api.Op{o}, lacking)
		wantCheck(t, []int{5, at}, []api.Op{o}, covering)
		wantCheck(t, []int{6, at}, []api.Op{o}, covering)
	}
}

func TestCheckOfOperationsInAnyPlace(t *testing.T) {
	v := []int{0, 0}
	for at := range 16 {
		for _, change := range []func(o *api.Op){
			func(o *api.Op) { o.Seq++ },
			func(o *api.Op) { o.Kind = 0 },
			func(o *api.Op) { o.Deps = append(o.Deps, 0) },
			func(o *api.Op) { o.Stamp.Time -= 2 },
			func(o *api.Op) { o.Stamp.Time += 2 },
			func(o *api.Op) { o.Deps = []int{0, 0}; o.Seq = 1 },
			func(o *api.Op) { o.Deps[1] = (at + 8) % 16; o.Seq = o.Deps[1] + 1 },
		} {
			held := row(16)
			change(&held[at])
			want := plainCheck(v, held)
			if o := held[at]; o.Seq != o.Deps[1]+1 || o.Kind == 0 || len(o.Deps) != 2 {
				want = api.ErrForm
			}
			wantCheck(t, v, held, want)
		}
	}
}

func TestReady(t *testing.T) {
	o := made(30, 1, 5, 9, 7)
	for _, c := range []struct {
		v    []int
		want bool
	}{
		{[]int{5, 9, 7}, true},
		{[]int{6, 9, 7}, true},
		{[]int{5, 9, 8}, true},
		{[]int{api.MaxTime, 9, api.MaxTime}, true},
		{[]int{5, 8, 7}, false},
		{[]int{5, 10, 7}, false},
		{[]int{5, 11, 7}, false},
		{[]int{5, 0, 7}, false},
		{[]int{5, api.MaxTime, 7}, false},
		{[]int{4, 9, 7}, false},
		{[]int{5, 9, 6}, false},
		{[]int{0, 9, 0}, false},
		{[]int{4, 9, 8}, false},
		{[]int{6, 9, 6}, false},
		{[]int{0, 0, 0}, false},
		{[]int{4, 10, 7}, false},
	} {
		wantReady(t, c.v, o, c.want, api.OK)
	}
	wantReady(t, []int{0}, made(1, 0, 0), true, api.OK)
	wantReady(t, []int{1}, made(1, 0, 0), false, api.OK)
	wantReady(t, []int{api.MaxTime - 1}, made(api.MaxTime, 0, api.MaxTime-1), true, api.OK)
	wantReady(t, []int{api.MaxTime}, made(api.MaxTime, 0, api.MaxTime-1), false, api.OK)
}

func TestReadyOfEachReplica(t *testing.T) {
	for reps := 1; reps <= api.MaxReps; reps++ {
		for rep := range reps {
			v := slices.Repeat([]int{3}, reps)
			o := made(50, rep, v...)
			wantReady(t, v, o, true, api.OK)
			for at := range reps {
				v[at] = 2
				wantReady(t, v, o, false, api.OK)
				v[at] = 4
				wantReady(t, v, o, at != rep, api.OK)
				v[at] = 3
			}
			wantReady(t, v[:reps-1], o, false, api.ErrForm)
			wantReady(t, append(v, 3), o, false, api.ErrForm)
		}
	}
}

func TestReadyOfWhatIsNotValid(t *testing.T) {
	for _, o := range badOps() {
		wantReady(t, []int{2, 2}, o, false, api.ErrForm)
		wantReady(t, []int{0, 0}, o, false, api.ErrForm)
	}
	for _, v := range badVectors() {
		for _, o := range append(badOps(), made(20, 0, 2, 2), made(20, 1, 2, 2), made(20, 0, 2), made(20, 0, slices.Repeat([]int{0}, 16)...)) {
			wantReady(t, v, o, false, api.ErrForm)
		}
	}
}

// P14.2

func TestTakeOfWhatIsNotValid(t *testing.T) {
	ops := []api.Op{made(20, 0, 1, 2), made(20, 0, 2, 2), made(20, 0, 3, 2), made(11, 0, 5, 0)}
	for _, o := range append(badOps(), ops...) {
		for _, v := range badVectors() {
			for _, held := range append(goodLists(), badLists()[:20]...) {
				wantRefused(t, v, held, o, api.ErrForm)
			}
		}
	}
	for _, held := range badLists() {
		for _, o := range append(badOps()[:20], ops...) {
			wantRefused(t, []int{2, 2}, held, o, api.ErrForm)
		}
	}
	for _, o := range badOps() {
		for _, held := range goodLists() {
			wantRefused(t, []int{2, 2}, held, o, api.ErrForm)
		}
	}
}

// What is not valid goes ahead of no room, and of all that needs none.
func TestTheOrderOfErrors(t *testing.T) {
	v, full := []int{2, 0}, row(16)
	wantCheck(t, v, full, api.OK)
	waits := made(99, 0, 3, 0)
	wantRefused(t, v, full, waits, api.ErrFull)
	for _, o := range append(badOps(), changed(waits, func(o *api.Op) { o.Seq++ }), changed(waits, func(o *api.Op) { o.Deps = append(o.Deps, 0) })) {
		wantRefused(t, v, full, o, api.ErrForm)
	}
	for _, o := range []api.Op{waits, made(99, 0, 2, 0), made(99, 0, 1, 0), full[3], made(12, 1, 6, 8)} {
		wantRefused(t, v, row(17), o, api.ErrForm)
		wantRefused(t, []int{2, -1}, full, o, api.ErrForm)
		wantRefused(t, []int{2, 0, 0}, full, o, api.ErrForm)
		for at := range full {
			bad := row(16)
			bad[at].Seq++
			wantRefused(t, v, bad, o, api.ErrForm)
		}
	}
	wantRefused(t, v, row(17), changed(waits, func(o *api.Op) { o.Seq++ }), api.ErrForm)
}

func TestTakeOfWhatIsKnown(t *testing.T) {
	waiting := []api.Op{made(7, 0, 3, 1), made(8, 1, 2, 4)}
	for _, held := range [][]api.Op{nil, waiting} {
		for seq := range 2 {
			wantNothing(t, []int{2, 1}, held, made(3, 0, seq, 0))
			wantNothing(t, []int{2, 1}, held, made(3, 0, seq, 9))
		}
		wantNothing(t, []int{2, 1}, held, made(3, 1, 0, 0))
		wantNothing(t, []int{2, 1}, held, made(3, 1, 7, 0))
	}
	for _, o := range waiting {
		wantNothing(t, []int{2, 1}, waiting, o)
		// Rep and Seq say which one it is, whatever else it says.
		wantNothing(t, []int{2, 1}, waiting, changed(o, func(o *api.Op) { o.Stamp.Time = 100 }))
		wantNothing(t, []int{2, 1}, waiting, changed(o, func(o *api.Op) { o.Stamp.Time = 1 }))
		wantNothing(t, []int{2, 1}, waiting, changed(o, func(o *api.Op) { o.Deps[1-o.Stamp.Rep] = 0 }))
		wantNothing(t, []int{2, 1}, waiting, changed(o, func(o *api.Op) { o.Node.Time = 77 }))
	}
}

func TestTakeOfWhatWaits(t *testing.T) {
	v := []int{2, 1}
	one, two := made(10, 0, 3, 1), made(20, 1, 2, 4)
	for _, o := range []api.Op{
		made(30, 0, 4, 0), made(15, 0, 4, 0), made(5, 0, 4, 0), // behind all, between, ahead of all
		made(10, 1, 2, 2), made(20, 0, 4, 0), made(9, 0, 4, 0), // at the same Time as another one
		made(5, 0, 2, 2), made(30, 1, 3, 1), // next, but without what it depends on
		made(30, 1, 2, 2), made(30, 1, 2, 3), made(30, 1, 2, 5),
		made(api.MaxTime, 0, api.MaxTime-1, api.MaxTime), made(1, 1, 0, 9),
	} {
		for _, held := range [][]api.Op{nil, {one}, {two}, {one, two}} {
			wantHeld(t, v, held, o)
		}
	}
}

func TestTakeOfAStampThatIsHeld(t *testing.T) {
	v, held := []int{2, 1}, []api.Op{made(10, 0, 3, 1), made(20, 1, 2, 4), made(30, 0, 5, 1)}
	wantRefused(t, v, held, made(10, 0, 4, 1), api.ErrFull)
	wantRefused(t, v, held, made(20, 1, 2, 5), api.ErrFull)
	wantRefused(t, v, held, made(30, 0, 4, 1), api.ErrFull)
	wantRefused(t, v, held, made(10, 0, 2, 2), api.ErrFull)
	// The Rep is of the Stamp, too.
	wantHeld(t, v, held, made(10, 1, 2, 5))
	wantHeld(t, v, held, made(20, 0, 4, 1))
}

func TestTakeOfWhatIsReady(t *testing.T) {
	wantTake(t, []int{0}, nil, made(1, 0, 0), []int{1}, nil, []api.Op{made(1, 0, 0)}, api.OK)
	wantTake(t, []int{2, 5}, nil, made(9, 0, 2, 3), []int{3, 5}, nil, []api.Op{made(9, 0, 2, 3)}, api.OK)
	last := made(api.MaxTime, 1, 0, api.MaxTime-1)
	wantTake(t, []int{0, api.MaxTime - 1}, nil, last, []int{0, api.MaxTime}, nil, []api.Op{last}, api.OK)
	for reps := 1; reps <= api.MaxReps; reps++ {
		for rep := range reps {
			v := slices.Repeat([]int{3}, reps)
			o := made(50, rep, v...)
			w := slices.Clone(v)
			w[rep] = 4
			wantTake(t, v, nil, o, w, nil, []api.Op{o}, api.OK)
		}
	}
	// What waits for something else goes on waiting.
	held := []api.Op{made(4, 0, 2, 6), made(7, 1, 4, 5), made(8, 0, 4, 0)}
	o := made(9, 1, 2, 4)
	wantTake(t, []int{2, 4}, held, o, []int{2, 5}, held, []api.Op{o}, api.OK)
}

// What v has, or what is held by Rep and Seq, needs no room, and no Stamp of its own.
func TestWhatIsKnownGoesAhead(t *testing.T) {
	v, full := []int{2, 0}, row(16)
	wantNothing(t, v, full, made(99, 0, 1, 0))
	wantNothing(t, v, full, made(99, 0, 0, 9))
	for _, o := range full {
		wantNothing(t, v, full, o)
		wantNothing(t, v, full, changed(o, func(o *api.Op) { o.Stamp.Time += 50 }))
		wantNothing(t, v, full, changed(o, func(o *api.Op) { o.Deps[0] = 9 }))
	}
	// The Stamp is another held one's.
	held := []api.Op{made(7, 0, 3, 0), made(8, 0, 4, 0), made(9, 1, 5, 5)}
	wantNothing(t, v, held, made(8, 0, 3, 0))
	wantNothing(t, v, held, made(7, 0, 4, 0))
	wantNothing(t, v, held, made(7, 0, 1, 0))
	wantNothing(t, v, full, made(11, 1, 5, 1))
	wantNothing(t, v, full, made(25, 1, 5, 1))
	// It would be ready, but another one that waits is held in its place.
	held = []api.Op{made(7, 0, 2, 5), made(8, 0, 4, 0)}
	wantNothing(t, v, held, made(6, 0, 2, 0))
	wantNothing(t, v, held, made(8, 0, 2, 0))
	wantNothing(t, v, append([]api.Op{held[0]}, row(15)...), made(99, 0, 2, 0))
}

// What is ready needs no room, and no Stamp of its own.
func TestWhatIsReadyGoesAheadOfNoRoom(t *testing.T) {
	full := row(16)
	o := made(99, 0, 2, 0)
	wantTake(t, []int{2, 0}, full, o, []int{3, 0}, full, []api.Op{o}, api.OK)
	held := []api.Op{made(7, 0, 4, 0), made(9, 1, 5, 5)}
	o = made(7, 0, 2, 0)
	wantTake(t, []int{2, 0}, held, o, []int{3, 0}, held, []api.Op{o}, api.OK)
	o = made(12, 1, 0, 0)
	wantTake(t, []int{2, 0}, full, o, []int{2, 1}, full, []api.Op{o}, api.OK)
}

func TestRoom(t *testing.T) {
	v := []int{2, 0}
	for n := range 17 {
		held := row(n)
		for _, o := range []api.Op{made(99, 0, 3, 0), made(5, 0, 3, 0), made(12, 0, 3, 0), made(99, 1, 2, 90)} {
			if n < 16 {
				wantHeld(t, v, held, o)
			} else {
				wantRefused(t, v, held, o, api.ErrFull)
			}
		}
		if n > 0 {
			wantRefused(t, v, held, made(10, 1, 5, 90), api.ErrFull)
			wantRefused(t, v, held, made(9+n, 1, 5, 90), api.ErrFull)
		}
	}
}

// The room of what is taken is there again.
func TestRoomBehindATake(t *testing.T) {
	v, held, _, e := Take([]int{5, 0}, row(16), made(99, 1, 0, 0))
	if e != api.OK || len(held) != 0 {
		t.Fatalf("%+v, %d", held, e)
	}
	for n := range 16 {
		o := made(100+n, 0, 7+n, 0)
		wantHeld(t, v, held, o)
		_, held, _, _ = Take(v, held, o)
	}
	wantRefused(t, v, held, made(200, 0, 70, 0), api.ErrFull)
}

func TestTakeSetsOthersFree(t *testing.T) {
	// The one that comes sets two free, of which the first one sets one ahead of it free, and that one goes ahead of the second.
	o := made(9, 0, 1, 0, 0)
	a, b, c, d := made(3, 1, 3, 0, 0), made(4, 0, 2, 0, 0), made(5, 2, 2, 0, 0), made(6, 2, 3, 1, 1)
	far := made(7, 1, 3, 1, 3)
	wantTake(t, []int{1, 0, 0}, []api.Op{a, b, c, d, far}, o, []int{3, 1, 2}, []api.Op{far}, []api.Op{o, b, a, c, d}, api.OK)
	wantTake(t, []int{1, 0, 0}, []api.Op{a, b, c, far}, o, []int{3, 1, 1}, []api.Op{far}, []api.Op{o, b, a, c}, api.OK)
	wantTake(t, []int{1, 0, 0}, []api.Op{a, c, d, far}, o, []int{2, 0, 1}, []api.Op{a, d, far}, []api.Op{o, c}, api.OK)
	// All that are set free at once are taken by their Stamps, and by Rep where the Times are the same.
	var held []api.Op
	for rep := 1; rep < 16; rep++ {
		held = append(held, made(50, rep, append([]int{1}, make([]int, 15)...)...))
	}
	w := slices.Repeat([]int{1}, 16)
	o = made(60, 0, make([]int, 16)...)
	wantTake(t, make([]int, 16), held, o, w, nil, append([]api.Op{o}, held...), api.OK)
}

func TestTakeSetsARowFree(t *testing.T) {
	for n := range 17 {
		o := made(99, 1, 0, 0)
		wantTake(t, []int{5, 0}, row(n), o, []int{5, 1 + n}, nil, append([]api.Op{o}, row(n)...), api.OK)
		wantTake(t, []int{4, 0}, row(n), o, []int{4, 1}, row(n), []api.Op{o}, api.OK)
		o = made(99, 0, 4, 1)
		if n > 0 {
			wantTake(t, []int{4, 1}, row(n), o, []int{5, 1 + n}, nil, append([]api.Op{o}, row(n)...), api.OK)
		}
	}
	// Their Stamps descend while their Seqs ascend: each sets the one ahead of it free.
	var held, back []api.Op
	for i := range 16 {
		held = append(held, made(10+i, 0, 16-i))
		back = append(back, made(25-i, 0, 1+i))
	}
	o := made(99, 0, 0)
	wantTake(t, []int{0}, held, o, []int{17}, nil, append([]api.Op{o}, back...), api.OK)
}

// small returns all operations of two replicas with Times from 2 to 4 and with Deps below 3.
func small() []api.Op {
	var out []api.Op
	for time := 2; time <= 4; time++ {
		for rep := range 2 {
			for deps := range 9 {
				out = append(out, made(time, rep, deps/3, deps%3))
			}
		}
	}
	return out
}

// smallLists returns all lists of up to two of the operations.
func smallLists(ops []api.Op) [][]api.Op {
	out := [][]api.Op{nil}
	for _, a := range ops {
		out = append(out, []api.Op{a})
		for _, b := range ops {
			out = append(out, []api.Op{a, b})
		}
	}
	return out
}

func TestAllSmallLists(t *testing.T) {
	ops := small()
	lists := smallLists(ops)
	taken := 0
	for at := range 9 {
		v := []int{at / 3, at % 3}
		for _, o := range ops {
			wantReady(t, v, o, plainReady(v, o), api.OK)
		}
		for i, held := range lists {
			e := plainCheck(v, held)
			wantCheck(t, v, held, e)
			if e != api.OK {
				wantRefused(t, v, held, ops[i%len(ops)], api.ErrForm)
				continue
			}
			for _, o := range ops {
				w, still, all, e := plainTake(v, held, o)
				wantTake(t, v, held, o, w, still, all, e)
				taken += len(all)
			}
		}
	}
	if taken < 1000 {
		t.Errorf("only %d were taken", taken)
	}
}

// Operations that fit one another badly: several with one Stamp, or one Rep and Seq, and more than there is room for.
func TestManyTakes(t *testing.T) {
	full, most := 0, 0
	for seed := range 60 {
		v, held := []int{0, 0, 0}, []api.Op(nil)
		for _, word := range spread(uint64(seed), 600) {
			var deps []int
			for at, n := range v {
				deps = append(deps, max(0, n-1+int(word>>(8*at)%uint64(4+seed%6))))
			}
			rep := int(word >> 30 % 3)
			if word>>40%16 == 0 {
				deps[rep] = v[rep]
			}
			o := made(1+int(word>>33%60), rep, deps...)
			w, still, taken, e := plainTake(v, held, o)
			wantTake(t, v, held, o, w, still, taken, e)
			most = max(most, len(taken))
			if e == api.ErrFull {
				full++
				continue
			}
			v, held, _, _ = Take(v, held, o)
		}
	}
	if full < 1000 || most < 5 {
		t.Errorf("no room %d times, at most %d taken at once", full, most)
	}
}

// P14.3

// history returns n operations of several replicas, each of which knows now and then what others know.
func history(seed uint64, reps, n int) []api.Op {
	known, times := make([][]int, reps), make([]int, reps)
	for rep := range known {
		known[rep] = make([]int, reps)
	}
	var out []api.Op
	for _, word := range spread(seed, n) {
		rep, other := int(word%uint64(reps)), int(word>>8%uint64(reps))
		if word>>16%2 == 0 {
			times[rep] = max(times[rep], times[other])
			for i, n := range known[other] {
				known[rep][i] = max(known[rep][i], n)
			}
		}
		times[rep]++
		out = append(out, made(times[rep], rep, known[rep]...))
		known[rep][rep]++
	}
	return out
}

// shuffled returns ops in another order, some of them several times, and each at least once.
func shuffled(seed uint64, ops []api.Op) []api.Op {
	out := apart(ops...)
	for _, word := range spread(seed+1, len(ops)/2) {
		out = append(out, ops[word%uint64(len(ops))])
	}
	for i, word := range spread(seed, len(out)) {
		at := word % uint64(i+1)
		out[i], out[at] = out[at], out[i]
	}
	return out
}

// wantOnce wants that each of ops was taken once, behind all that it depends on.
func wantOnce(t *testing.T, reps int, ops, taken []api.Op) {
	t.Helper()
	at := make([]int, reps)
	for _, o := range taken {
		for rep, n := range o.Deps {
			if at[rep] < n {
				t.Errorf("%+v was taken at %v", o, at)
			}
		}
		if o.Seq != at[o.Stamp.Rep]+1 {
			t.Errorf("%+v was taken at %v", o, at)
		}
		at[o.Stamp.Rep]++
	}
	byStamp := func(a, b api.Op) int {
		if before(a, b) {
			return -1
		}
		return 1
	}
	was, is := apart(ops...), apart(taken...)
	slices.SortFunc(was, byStamp)
	slices.SortFunc(is, byStamp)
	if !same(was, is) {
		t.Errorf("%+v were taken, want %+v", is, was)
	}
}

// deliver hands ops over round by round, in another order each time, till all are taken; it returns these and how many found no room.
func deliver(t *testing.T, seed uint64, reps int, ops []api.Op) (all []api.Op, full int) {
	v, held := make([]int, reps), []api.Op(nil)
	for round := 0; len(all) < len(ops); round++ {
		if round > len(ops) {
			t.Fatalf("after %d rounds %d of %d are taken", round, len(all), len(ops))
		}
		for _, o := range shuffled(seed+uint64(round), ops) {
			w, still, taken, e := Take(v, held, o)
			if e == api.ErrFull {
				full++
				continue
			}
			if e != api.OK {
				t.Fatalf("Take(%v, %+v, %+v): %d", v, held, o, e)
			}
			wantCheck(t, w, still, api.OK)
			for _, h := range still {
				if h.Seq <= w[h.Stamp.Rep] {
					t.Errorf("%+v is held at %v", h, w)
				}
			}
			v, held, all = w, still, append(all, taken...)
		}
	}
	if len(held) > 0 {
		t.Errorf("%+v are held behind all", held)
	}
	for _, o := range ops {
		wantNothing(t, v, held, o)
	}
	return all, full
}

func TestInWhateverOrderTheyArrive(t *testing.T) {
	for seed := range uint64(150) {
		reps := 1 + int(seed%5)
		// As many as can wait at once: one round is enough.
		ops := history(seed, reps, 16)
		all, full := deliver(t, seed, reps, ops)
		wantOnce(t, reps, ops, all)
		if full > 0 {
			t.Errorf("%d: no room for %d of 16", seed, full)
		}
	}
}

func TestInWhateverOrderMoreArriveThanMayWait(t *testing.T) {
	none := 0
	for seed := range uint64(40) {
		reps := 1 + int(seed*3%16)
		ops := history(seed, reps, 80)
		all, full := deliver(t, seed, reps, ops)
		wantOnce(t, reps, ops, all)
		none += full
	}
	if none < 100 {
		t.Errorf("only %d found no room", none)
	}
}

// All orders of a few, and each of them at once again.
func TestAllOrders(t *testing.T) {
	ops := []api.Op{made(1, 0, 0, 0), made(2, 1, 1, 0), made(3, 0, 1, 1), made(4, 1, 1, 1), made(5, 0, 2, 2)}
	var arrive func(v []int, held, all, left []api.Op)
	arrive = func(v []int, held, all, left []api.Op) {
		if len(left) == 0 {
			wantOnce(t, 2, ops, all)
		}
		for i, o := range left {
			w, still, taken, e := Take(v, held, o)
			if e != api.OK {
				t.Fatalf("Take(%v, %+v, %+v): %d", v, held, o, e)
			}
			wantCheck(t, w, still, api.OK)
			wantNothing(t, w, still, o)
			arrive(w, still, slices.Concat(all, taken), slices.Delete(apart(left...), i, i+1))
		}
	}
	arrive([]int{0, 0}, nil, nil, ops)
}

func TestTheExample(t *testing.T) {
	first, second := made(1, 0, 0), made(2, 0, 1)
	wantTake(t, []int{0}, nil, second, []int{0}, []api.Op{second}, nil, api.OK)
	wantTake(t, []int{0}, []api.Op{second}, first, []int{2}, nil, []api.Op{first, second}, api.OK)
}

// R1 and R2

type call struct {
	v    []int
	held []api.Op
	o    api.Op
}

// calls are of all of Take's cases, and of its errors.
func calls() []call {
	full := row(16)
	a, b, c := made(3, 1, 3, 0), made(4, 0, 2, 0), made(5, 0, 7, 0)
	return []call{
		{[]int{0, 0}, nil, made(8, 0, 0, 0)},
		{[]int{2, 0}, []api.Op{a, c}, made(8, 0, 1, 0)},
		{[]int{2, 0}, []api.Op{a, c}, c},
		{[]int{0, 0}, nil, made(8, 0, 1, 0)},
		{[]int{2, 0}, []api.Op{a, c}, made(4, 0, 3, 1)},
		{[]int{2, 0}, []api.Op{a, c}, made(8, 0, 3, 1)},
		{[]int{1, 0}, []api.Op{a, b, c}, made(8, 0, 1, 0)},
		{[]int{5, 0}, full, made(99, 1, 0, 0)},
		{[]int{5, 0}, full, made(99, 0, 5, 0)},
		{[]int{5, 0}, full[:15], made(99, 0, 6, 0)},
		{[]int{5, 0}, full, made(99, 0, 6, 0)},
		{[]int{5, 0}, []api.Op{b}, made(99, 0, 6, 0)},
		{[]int{5, -1}, full, made(99, 0, 6, 0)},
		{[]int{5, 0}, nil, api.Op{}},
	}
}

func spaciousList(v []int) []int {
	return append(slices.Clone(v), 77, 78)[:len(v)]
}

func spaciousOp(o api.Op) api.Op {
	return changed(o, func(o *api.Op) { o.Deps = spaciousList(o.Deps) })
}

// spacious returns c in memory of its own, with others in the spare capacity of each list.
func spacious(c call) call {
	held := append(apart(c.held...), made(1, 0, 7))[:len(c.held)]
	for i, h := range held {
		held[i] = spaciousOp(h)
	}
	return call{spaciousList(c.v), held, spaciousOp(c.o)}
}

// lists returns all lists of numbers of the operations.
func lists(ops []api.Op) [][]int {
	var out [][]int
	for _, o := range ops {
		out = append(out, o.Deps)
	}
	return out
}

// wantUntouched wants that got, made from c by spacious, is as it was made.
func wantUntouched(t *testing.T, c, got call) {
	t.Helper()
	if !slices.Equal(got.v, c.v) || !same(got.held, c.held) || !same([]api.Op{got.o}, []api.Op{c.o}) {
		t.Errorf("%+v is now %+v", c, got)
	}
	for _, l := range append(lists(got.held), got.v, got.o.Deps) {
		if behind := l[len(l) : len(l)+2]; !slices.Equal(behind, []int{77, 78}) {
			t.Errorf("behind a list of %+v: %v", c, behind)
		}
	}
	if behind := got.held[:len(got.held)+1][len(got.held):]; !same(behind, []api.Op{made(1, 0, 7)}) {
		t.Errorf("behind the held ones of %+v: %+v", c, behind)
	}
}

func TestArgumentsAreNotChanged(t *testing.T) {
	for _, c := range calls() {
		given := spacious(c)
		Check(given.v, given.held)
		Ready(given.v, given.o)
		Take(given.v, given.held, given.o)
		wantUntouched(t, c, given)
	}
}

// overwrite writes into a list, its spare capacity among it.
func overwrite(v []int) {
	v = v[:cap(v)]
	for i := range v {
		v[i] = -9
	}
}

// Each list of an answer, written into, changes neither what was handed in nor any other list.
func TestAnswersAreNewMemory(t *testing.T) {
	for _, c := range calls() {
		w, still, taken, _ := plainTake(c.v, c.held, c.o)
		if _, _, _, e := Take(c.v, c.held, c.o); e != api.OK {
			continue
		}
		count := 1 + len(still) + len(taken)
		for at := range count {
			given := spacious(c)
			gotW, gotStill, gotTaken, _ := Take(given.v, given.held, given.o)
			all := slices.Concat([][]int{gotW}, lists(gotStill), lists(gotTaken))
			if len(all) != count {
				t.Fatalf("%d lists, want %d", len(all), count)
			}
			overwrite(all[at])
			wantUntouched(t, c, given)
			want := slices.Concat([][]int{w}, lists(still), lists(taken))
			for i := range all {
				if i != at && !slices.Equal(all[i], want[i]) {
					t.Errorf("%+v: list %d shares memory with list %d", c, at, i)
				}
			}
		}
	}
}

func TestListsOfOperationsAreNewMemory(t *testing.T) {
	for _, c := range calls() {
		_, still, taken, e := plainTake(c.v, c.held, c.o)
		if e != api.OK || Check(c.v, c.held) != api.OK || c.o.Seq == 0 {
			continue
		}
		given := spacious(c)
		_, gotStill, gotTaken, _ := Take(given.v, given.held, given.o)
		clear(gotStill[:cap(gotStill)])
		wantUntouched(t, c, given)
		if !same(gotTaken, taken) {
			t.Errorf("%+v: the two lists of operations share memory", c)
		}
		_, gotStill, gotTaken, _ = Take(given.v, given.held, given.o)
		clear(gotTaken[:cap(gotTaken)])
		wantUntouched(t, c, given)
		if !same(gotStill, still) {
			t.Errorf("%+v: the two lists of operations share memory", c)
		}
	}
}

func TestAnswersOfEqualCalls(t *testing.T) {
	for _, c := range calls() {
		w, still, taken, e := Take(c.v, c.held, c.o)
		overwritten, _, _, _ := Take(c.v, c.held, c.o)
		overwrite(overwritten)
		wantTake(t, c.v, c.held, c.o, w, still, taken, e)
	}
}

func TestLargeInputs(t *testing.T) {
	o := made(9, 0, 2, 0)
	vast := changed(o, func(o *api.Op) { o.Deps = make([]int, 1<<22) })
	long := changed(made(10, 0, 3, 0), func(o *api.Op) { o.Key = strings.Repeat("k", 1<<24) })
	wantCheck(t, make([]int, 1<<22), nil, api.ErrForm)
	for _, held := range [][]api.Op{{vast}, {long}, slices.Repeat(row(16), 1<<14)} {
		if e := Check([]int{2, 0}, held); e != api.ErrForm {
			t.Errorf("Check: %d", e)
		}
		if _, _, _, e := Take([]int{2, 0}, held, o); e != api.ErrForm {
			t.Errorf("Take: %d", e)
		}
	}
	for _, o := range []api.Op{vast, long} {
		if is, e := Ready([]int{2, 0}, o); is || e != api.ErrForm {
			t.Errorf("Ready: %v, %d", is, e)
		}
		if _, _, _, e := Take([]int{2, 0}, nil, o); e != api.ErrForm {
			t.Errorf("Take: %d", e)
		}
	}
}
