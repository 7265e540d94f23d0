package reg

import (
	"math"
	"reflect"
	"slices"
	"testing"

	"arras/api"
)

// spread returns n words, the same in every run.
func spread(seed uint64, n int) []uint64 {
	out := make([]uint64, n)
	for i := range out {
		seed = seed*6364136223846793005 + 1442695040888963407
		out[i] = seed>>17 ^ seed<<29
	}
	return out
}

// least and greatest are the ends of a property's values, as the document's table has them.
func least(prop int) int {
	switch prop {
	case api.PropWidth, api.PropHeight, api.PropMaxW, api.PropMaxH, api.PropBasis:
		return -1
	case api.PropFont:
		return 64
	}
	return 0
}

func greatest(prop int) int {
	switch prop {
	case api.PropDisplay:
		return 2
	case api.PropDirect, api.PropWrap:
		return 1
	case api.PropGrow, api.PropShrink:
		return 1048576
	case api.PropMargin, api.PropPad, api.PropGap:
		return 1073741824
	case api.PropJustify:
		return 4
	case api.PropAlign:
		return 3
	case api.PropColor:
		return 16777215
	case api.PropFont:
		return 64000
	}
	return 1099511627776
}

func at(time, rep int) api.Stamp {
	return api.Stamp{Time: time, Rep: rep}
}

// reg returns a register whose Value tells its stamp.
func reg(prop, time, rep int) api.Reg {
	size := greatest(prop) - least(prop) + 1
	return api.Reg{Prop: prop, Value: least(prop) + (16*time+rep)%size, Stamp: at(time, rep)}
}

// regs returns a register of each of the properties, with the times one after another from there on.
func regs(time int, props ...int) []api.Reg {
	var out []api.Reg
	for i, prop := range props {
		out = append(out, reg(prop, time+i, (time+prop)%16))
	}
	return out
}

// full returns a register of every property.
func full(time int) []api.Reg {
	var props []int
	for prop := range api.Props {
		props = append(props, prop)
	}
	return regs(time, props...)
}

// with is a copy of l in which one register is changed.
func with(l []api.Reg, at int, change func(r *api.Reg)) []api.Reg {
	out := slices.Clone(l)
	change(&out[at])
	return out
}

func goodLists() [][]api.Reg {
	out := [][]api.Reg{nil, {}, full(1), full(100), regs(api.MaxTime-1, 3, 5), regs(7, 9, 17, 18), regs(3, 0, 18)}
	for prop := range api.Props {
		out = append(out, regs(1, prop), regs(40, prop), slices.Delete(full(20), prop, prop+1), full(30)[:prop], full(50)[prop:])
		for _, value := range []int{least(prop), greatest(prop)} {
			out = append(out, with(full(60), prop, func(r *api.Reg) { r.Value = value }), []api.Reg{{Prop: prop, Value: value, Stamp: at(1, 15)}})
		}
		for _, s := range []api.Stamp{at(1, 0), at(1, 15), at(api.MaxTime, 0), at(api.MaxTime, 15)} {
			out = append(out, with(full(70), prop, func(r *api.Reg) { r.Stamp = s }))
		}
	}
	return out
}

// noProps are numbers of no property, such as have the lower bits of one among them.
func noProps() []int {
	return []int{-1, -2, -19, -256, 19, 20, 38, 256, 256 + 9, 1 << 16, 1 << 32, 1<<32 + 9, math.MinInt, math.MinInt + 9, math.MaxInt - 1, math.MaxInt}
}

// noValues are numbers that are no values of the property.
func noValues(prop int) []int {
	low, high := least(prop), greatest(prop)
	return []int{low - 1, low - 2, high + 1, high + 2, 2*high + 2, low + 1<<41, high - 1<<41, math.MinInt, math.MinInt + low + 1, math.MaxInt}
}

func noStamps() []api.Stamp {
	return []api.Stamp{{}, at(0, 1), at(0, 2), at(-1, 0), at(-1, 1), at(api.MaxTime+1, 0), at(math.MinInt, 0), at(math.MaxInt, 0), at(1, -1), at(1, 16), at(1, 17), at(1, 256), at(1, 1<<32), at(1, math.MinInt), at(1, math.MaxInt), at(api.MaxTime+1, 16), at(-1, -1)}
}

// badLists are not valid, for one reason each.
func badLists() [][]api.Reg {
	// Props that are equal or descend.
	out := [][]api.Reg{regs(1, 0, 0), regs(1, 18, 18), regs(1, 9, 9), regs(1, 1, 0), regs(1, 18, 0), regs(1, 0, 2, 1), regs(1, 0, 2, 2), regs(1, 0, 0, 2), regs(1, 5, 3, 9), append(full(1), reg(18, 90, 0)), append(full(1), full(1)...), slices.Repeat(regs(1, 4), 1000)}
	two := full(5)
	slices.Reverse(two)
	out = append(out, two)
	for _, prop := range noProps() {
		r := api.Reg{Prop: prop, Value: 0, Stamp: at(4, 4)}
		out = append(out, []api.Reg{r})
		// Where the Props ascend all the same.
		if prop < 0 {
			out = append(out, append([]api.Reg{r}, full(1)...), []api.Reg{r, reg(9, 1, 1)})
		} else {
			out = append(out, append(full(1), r), []api.Reg{reg(9, 1, 1), r})
		}
	}
	for prop := range api.Props {
		for _, value := range noValues(prop) {
			bad := func(r *api.Reg) { r.Value = value }
			out = append(out, with(regs(3, prop), 0, bad), with(full(3), prop, bad))
		}
		for _, s := range noStamps() {
			bad := func(r *api.Reg) { r.Stamp = s }
			out = append(out, with(regs(3, prop), 0, bad), with(full(3), prop, bad))
		}
	}
	return out
}

// below tells whether a is below b by Time, then by Rep.
func below(a, b api.Stamp) bool {
	return a.Time < b.Time || a.Time == b.Time && a.Rep < b.Rep
}

// plainMerge is what the document says, property by property.
func plainMerge(a, b []api.Reg) []api.Reg {
	var out []api.Reg
	for prop := range api.Props {
		found := []api.Reg{}
		for _, l := range [][]api.Reg{a, b} {
			for _, r := range l {
				if r.Prop == prop {
					found = append(found, r)
				}
			}
		}
		switch {
		case len(found) == 2 && below(found[0].Stamp, found[1].Stamp):
			out = append(out, found[1])
		case len(found) > 0:
			out = append(out, found[0])
		}
	}
	return out
}

func wantCheck(t *testing.T, l []api.Reg, e api.Errno) {
	t.Helper()
	if got := Check(l); got != e {
		t.Errorf("Check(%v): %d, want %d", l, got, e)
	}
}

func wantSet(t *testing.T, l []api.Reg, prop, value int, s api.Stamp, want []api.Reg) {
	t.Helper()
	if got, e := Set(l, prop, value, s); e != api.OK || !slices.Equal(got, want) {
		t.Errorf("Set(%v, %d, %d, %v): %v, %d, want %v", l, prop, value, s, got, e, want)
	}
}

func wantSetRefused(t *testing.T, l []api.Reg, prop, value int, s api.Stamp) {
	t.Helper()
	if got, e := Set(l, prop, value, s); e != api.ErrForm || got != nil {
		t.Errorf("Set(%v, %d, %d, %v): %v, %d, want %d alone", l, prop, value, s, got, e, api.ErrForm)
	}
}

func wantGet(t *testing.T, l []api.Reg, prop, value int, e api.Errno) {
	t.Helper()
	if got, err := Get(l, prop); got != value || err != e {
		t.Errorf("Get(%v, %d): %d, %d, want %d, %d", l, prop, got, err, value, e)
	}
}

func wantMerge(t *testing.T, a, b, want []api.Reg) {
	t.Helper()
	if got, e := Merge(a, b); e != api.OK || !slices.Equal(got, want) {
		t.Errorf("Merge(%v, %v): %v, %d, want %v", a, b, got, e, want)
	}
}

func wantMergeRefused(t *testing.T, a, b []api.Reg) {
	t.Helper()
	if got, e := Merge(a, b); e != api.ErrForm || got != nil {
		t.Errorf("Merge(%v, %v): %v, %d, want %d alone", a, b, got, e, api.ErrForm)
	}
}

// P15.1: Check.

func TestCheckOfValidLists(t *testing.T) {
	for _, l := range goodLists() {
		wantCheck(t, l, api.OK)
	}
}

func TestCheckOfListsThatAreNot(t *testing.T) {
	for _, l := range badLists() {
		wantCheck(t, l, api.ErrForm)
	}
}

func TestCheckOfAllPairsOfProps(t *testing.T) {
	for first := -1; first <= api.Props; first++ {
		for second := -1; second <= api.Props; second++ {
			e := api.ErrForm
			if 0 <= first && first < second && second < api.Props {
				e = api.OK
			}
			l := []api.Reg{{Prop: first, Value: least(first), Stamp: at(2, 2)}, {Prop: second, Value: least(second), Stamp: at(1, 1)}}
			wantCheck(t, l, e)
		}
	}
}

func TestCheckOfTheEndsOfAllValues(t *testing.T) {
	for prop := range api.Props {
		for _, c := range []struct {
			value int
			e     api.Errno
		}{{least(prop) - 1, api.ErrForm}, {least(prop), api.OK}, {greatest(prop), api.OK}, {greatest(prop) + 1, api.ErrForm}} {
			wantCheck(t, []api.Reg{{Prop: prop, Value: c.value, Stamp: at(1, 0)}}, c.e)
			wantCheck(t, with(full(9), prop, func(r *api.Reg) { r.Value = c.value }), c.e)
		}
	}
}

func TestCheckDoesNotAskForStampsInOrder(t *testing.T) {
	wantCheck(t, []api.Reg{reg(1, 9, 0), reg(2, 4, 3), reg(3, 4, 3), reg(4, 4, 2), reg(5, 10, 0)}, api.OK)
}

// P15.1: Set.

func TestTheDocumentsExample(t *testing.T) {
	l, _ := Set(nil, api.PropGrow, 50, at(5, 0))
	wantSet(t, l, api.PropGrow, 40, at(4, 0), []api.Reg{{Prop: api.PropGrow, Value: 50, Stamp: at(5, 0)}})
}

func TestSetAddsARegister(t *testing.T) {
	l := regs(50, 4, 9, 11)
	for prop := range api.Props {
		r := reg(prop, 3, 7)
		wantSet(t, nil, prop, r.Value, r.Stamp, []api.Reg{r})
		wantSet(t, []api.Reg{}, prop, r.Value, r.Stamp, []api.Reg{r})
		all := with(full(50), prop, func(old *api.Reg) { *old = r })
		wantSet(t, slices.Delete(slices.Clone(all), prop, prop+1), prop, r.Value, r.Stamp, all)
	}
	for _, c := range []struct {
		prop, place int
	}{{0, 0}, {3, 0}, {5, 1}, {8, 1}, {10, 2}, {12, 3}, {18, 3}} {
		r := reg(c.prop, 3, 7)
		wantSet(t, l, c.prop, r.Value, r.Stamp, slices.Insert(slices.Clone(l), c.place, r))
	}
}

func TestSetWithAStampBelowEqualToAndAboveTheOneThatIsThere(t *testing.T) {
	there := at(20, 7)
	for prop := range api.Props {
		for _, c := range []struct {
			s   api.Stamp
			set bool
		}{
			{at(1, 7), false}, {at(19, 7), false}, {at(19, 8), false}, {at(19, 15), false}, {at(20, 0), false}, {at(20, 6), false},
			{at(20, 7), false},
			{at(20, 8), true}, {at(20, 15), true}, {at(21, 0), true}, {at(21, 6), true}, {at(21, 7), true}, {at(api.MaxTime, 0), true},
		} {
			alone := []api.Reg{{Prop: prop, Value: least(prop), Stamp: there}}
			among := with(full(90), prop, func(r *api.Reg) { *r = alone[0] })
			for _, l := range [][]api.Reg{alone, among} {
				want := l
				if c.set {
					// The Value is another one: greatest and least differ for all properties.
					want = with(l, slices.Index(l, alone[0]), func(r *api.Reg) { r.Value, r.Stamp = greatest(prop), c.s })
				}
				wantSet(t, l, prop, greatest(prop), c.s, want)
			}
		}
	}
}

func TestSetOfTheSameValueTakesTheStamp(t *testing.T) {
	l := []api.Reg{{Prop: 9, Value: 5, Stamp: at(4, 3)}}
	wantSet(t, l, 9, 5, at(4, 4), []api.Reg{{Prop: 9, Value: 5, Stamp: at(4, 4)}})
	wantSet(t, l, 9, 5, at(4, 2), l)
}

func TestSetOfWhatIsNoRegister(t *testing.T) {
	lists := [][]api.Reg{nil, {}, full(50), regs(50, 3, 9)}
	for _, l := range lists {
		for _, prop := range noProps() {
			for _, value := range []int{0, 1, 64} {
				wantSetRefused(t, l, prop, value, at(1, 0))
				wantSetRefused(t, l, prop, value, at(api.MaxTime, 15))
			}
			wantSetRefused(t, l, prop, math.MinInt, at(0, 0))
		}
		for prop := range api.Props {
			for _, value := range noValues(prop) {
				// Also where it would change nothing.
				wantSetRefused(t, l, prop, value, at(1, 0))
				wantSetRefused(t, l, prop, value, at(api.MaxTime, 15))
				wantSetRefused(t, l, prop, value, at(0, 0))
			}
			for _, s := range noStamps() {
				wantSetRefused(t, l, prop, least(prop), s)
			}
		}
	}
}

func TestSetOfListsThatAreNotValid(t *testing.T) {
	for _, l := range badLists() {
		wantSetRefused(t, l, 9, 5, at(2, 2))
		wantSetRefused(t, l, 0, 0, at(api.MaxTime, 15))
		wantSetRefused(t, l, 18, 64, at(1, 0))
		wantSetRefused(t, l, 19, 64, at(1, 0))
		wantSetRefused(t, l, 9, -1, at(1, 0))
		wantSetRefused(t, l, 9, 1, at(1, 16))
		// A list stays wrong, even if its wrong register is the one that is set.
		if len(l) > 0 {
			wantSetRefused(t, l, l[0].Prop, 0, at(api.MaxTime, 15))
		}
	}
}

// P15.1: Get.

func TestGet(t *testing.T) {
	for _, l := range goodLists() {
		for prop := range api.Props {
			i := slices.IndexFunc(l, func(r api.Reg) bool { return r.Prop == prop })
			if i >= 0 {
				wantGet(t, l, prop, l[i].Value, api.OK)
			} else {
				wantGet(t, l, prop, 0, api.ErrNone)
			}
		}
		for _, prop := range noProps() {
			wantGet(t, l, prop, 0, api.ErrNone)
		}
	}
}

func TestGetOfListsThatAreNotValid(t *testing.T) {
	for _, l := range badLists() {
		for prop := -1; prop <= api.Props; prop++ {
			// ErrForm also where there is none, or where what is asked for is there and right.
			wantGet(t, l, prop, 0, api.ErrForm)
		}
		wantGet(t, l, math.MinInt, 0, api.ErrForm)
		wantGet(t, l, math.MaxInt, 0, api.ErrForm)
	}
}

// P15.1: Merge.

func TestMergeOfListsThatShareNone(t *testing.T) {
	a, b := regs(30, 2, 4, 9), regs(20, 0, 3, 5, 18)
	want := []api.Reg{b[0], a[0], b[1], a[1], b[2], a[2], b[3]}
	wantMerge(t, a, b, want)
	wantMerge(t, b, a, want)
	all := full(10)
	for cut := range all {
		wantMerge(t, all[:cut], all[cut:], all)
		wantMerge(t, all[cut:], all[:cut], all)
	}
}

func TestMergeOfListsThatShareSomeOrAll(t *testing.T) {
	older, newer := full(10), full(100)
	wantMerge(t, older, newer, newer)
	wantMerge(t, newer, older, newer)
	some := regs(200, 0, 7, 18)
	want := slices.Clone(older)
	want[0], want[7], want[18] = some[0], some[1], some[2]
	wantMerge(t, older, some, want)
	wantMerge(t, some, older, want)
	wantMerge(t, []api.Reg{older[3], newer[4], older[5]}, []api.Reg{newer[3], older[4], newer[6]}, []api.Reg{newer[3], newer[4], older[5], newer[6]})
}

func TestMergeTakesTheLargerStampOnEitherSide(t *testing.T) {
	rising := []api.Stamp{at(1, 0), at(1, 15), at(2, 0), at(2, 1), at(3, 0), at(api.MaxTime, 0), at(api.MaxTime, 15)}
	for prop := range api.Props {
		for i, low := range rising {
			for _, high := range rising[i+1:] {
				for _, value := range [][2]int{{least(prop), greatest(prop)}, {greatest(prop), least(prop)}} {
					x := []api.Reg{{Prop: prop, Value: value[0], Stamp: low}}
					y := []api.Reg{{Prop: prop, Value: value[1], Stamp: high}}
					wantMerge(t, x, y, y)
					wantMerge(t, y, x, y)
				}
			}
		}
	}
}

func TestMergeTakesTheFirstOneOfEqualStamps(t *testing.T) {
	low, high := full(10), full(10)
	for prop := range api.Props {
		low[prop].Value, high[prop].Value = least(prop), greatest(prop)
	}
	wantMerge(t, low, high, low)
	wantMerge(t, high, low, high)
	for prop := range api.Props {
		wantMerge(t, low[prop:prop+1], high[prop:prop+1], low[prop:prop+1])
		wantMerge(t, high[prop:prop+1], low, with(low, prop, func(r *api.Reg) { *r = high[prop] }))
	}
}

func TestMergeWithItselfAndWithNone(t *testing.T) {
	for _, l := range goodLists() {
		wantMerge(t, l, l, l)
		wantMerge(t, l, nil, l)
		wantMerge(t, nil, l, l)
		wantMerge(t, []api.Reg{}, l, l)
		wantMerge(t, l, []api.Reg{}, l)
	}
}

func TestMergeOfListsThatAreNotValid(t *testing.T) {
	bad := badLists()
	for i, l := range bad {
		for _, good := range [][]api.Reg{nil, {}, full(9), regs(40, 2, 9)} {
			wantMergeRefused(t, l, good)
			wantMergeRefused(t, good, l)
		}
		wantMergeRefused(t, l, l)
		wantMergeRefused(t, l, bad[(i*7+1)%len(bad)])
	}
}

// someLists are valid ones with few properties and stamps, so that they have much in common.
func someLists(seed uint64, n int) [][]api.Reg {
	var out [][]api.Reg
	for i := range n {
		var l []api.Reg
		for prop, word := range spread(seed+uint64(i)*977, api.Props) {
			if word%3 > 0 {
				l = append(l, reg(prop, 1+int(word>>8%3), int(word>>16%3)))
			}
		}
		out = append(out, l)
	}
	return out
}

func TestMergeIsWhatTheDocumentSays(t *testing.T) {
	lists := someLists(1, 60)
	for _, a := range lists {
		for _, b := range lists {
			// Those of b have other values, to be told apart.
			b = slices.Clone(b)
			for i := range b {
				b[i].Value = greatest(b[i].Prop) - i%2
			}
			wantMerge(t, a, b, plainMerge(a, b))
			wantMerge(t, b, a, plainMerge(b, a))
		}
	}
}

func TestSetIsWhatTheDocumentSays(t *testing.T) {
	for i, l := range someLists(2, 100) {
		for _, word := range spread(uint64(i), 60) {
			prop := int(word % api.Props)
			r := api.Reg{Prop: prop, Value: greatest(prop) - int(word>>8%2), Stamp: at(1+int(word>>16%3), int(word>>24%3))}
			want := plainMerge(l, []api.Reg{r})
			wantSet(t, l, r.Prop, r.Value, r.Stamp, want)
			l = want
		}
	}
}

// P15.2

// setAll sets the registers one by one.
func setAll(t *testing.T, rs []api.Reg) []api.Reg {
	t.Helper()
	var l []api.Reg
	for _, r := range rs {
		next, e := Set(l, r.Prop, r.Value, r.Stamp)
		if e != api.OK || Check(next) != api.OK {
			t.Fatalf("Set(%v, %v): %v, %d", l, r, next, e)
		}
		l = next
	}
	return l
}

// latest returns of each property the one with the largest stamp.
func latest(rs []api.Reg) []api.Reg {
	var out []api.Reg
	for prop := range api.Props {
		var last api.Reg
		for _, r := range rs {
			if r.Prop == prop && below(last.Stamp, r.Stamp) {
				last = r
			}
		}
		if last.Stamp.Time > 0 {
			out = append(out, last)
		}
	}
	return out
}

func shuffled(seed uint64, rs []api.Reg) []api.Reg {
	out := slices.Clone(rs)
	for i, word := range spread(seed, len(out)) {
		j := int(word % uint64(i+1))
		out[i], out[j] = out[j], out[i]
	}
	return out
}

// unlike returns n registers of few properties, no two with the same stamp.
func unlike(seed uint64, n, props int) []api.Reg {
	var out []api.Reg
	for i, word := range spread(seed, n) {
		prop := int(word % uint64(props))
		r := reg(prop, 1+i/5, i%5)
		r.Value = least(prop) + int(word>>20)%(greatest(prop)-least(prop)+1)
		out = append(out, r)
	}
	return out
}

// eachOrder calls visit with all orders of rs.
func eachOrder(rs []api.Reg, visit func([]api.Reg)) {
	var from func(done int)
	from = func(done int) {
		if done == len(rs) {
			visit(rs)
		}
		for i := done; i < len(rs); i++ {
			rs[done], rs[i] = rs[i], rs[done]
			from(done + 1)
			rs[done], rs[i] = rs[i], rs[done]
		}
	}
	from(0)
}

func TestTheLargestStampRemainsInEveryOrder(t *testing.T) {
	for _, rs := range [][]api.Reg{
		{reg(9, 1, 0), reg(9, 1, 1), reg(9, 2, 0), reg(9, 2, 5), reg(9, 3, 1)},
		{reg(9, 1, 3), reg(9, 2, 2), reg(9, 3, 1), reg(9, 4, 0)},
		{reg(3, 4, 0), reg(9, 1, 1), reg(3, 4, 2), reg(9, 1, 2), reg(18, 1, 0), reg(0, 7, 7)},
	} {
		want := latest(rs)
		eachOrder(slices.Clone(rs), func(order []api.Reg) {
			if got := setAll(t, order); !slices.Equal(got, want) {
				t.Errorf("%v: %v, want %v", order, got, want)
			}
		})
	}
}

func TestTheLargestStampRemainsInManyOrders(t *testing.T) {
	for seed := range uint64(30) {
		rs := unlike(seed, 60, 1+int(seed)%api.Props)
		want := latest(rs)
		for order := range uint64(10) {
			mixed := shuffled(100*seed+order, rs)
			if got := setAll(t, mixed); !slices.Equal(got, want) {
				t.Errorf("%v: %v, want %v", mixed, got, want)
			}
			for _, cut := range []int{0, 1, 30, 59, 60} {
				left, right := setAll(t, mixed[:cut]), setAll(t, mixed[cut:])
				wantMerge(t, left, right, want)
				wantMerge(t, right, left, want)
			}
			// And what both have is no matter.
			wantMerge(t, setAll(t, mixed[:40]), setAll(t, mixed[20:]), want)
		}
	}
}

// R1 and R2

// spacious returns l with spare capacity that is written, to see whether it is changed.
func spacious(l []api.Reg) []api.Reg {
	out := append(slices.Clone(l), full(500)...)
	return out[:len(l):len(out)]
}

func TestArgumentsAreNotChanged(t *testing.T) {
	lists := append(append(goodLists()[:40], someLists(3, 20)...), badLists()[:40]...)
	for i, l := range lists {
		a, b := spacious(l), spacious(lists[(i*5+3)%len(lists)])
		wasA, wasB := slices.Clone(a[:cap(a)]), slices.Clone(b[:cap(b)])
		Check(a)
		for prop := -1; prop <= api.Props; prop++ {
			Get(a, prop)
			Set(a, prop, 1, at(1, 0))
			Set(a, prop, 1, at(api.MaxTime, 15))
			Set(a, prop, 1000, at(700, 2))
		}
		Merge(a, b)
		Merge(b, a)
		Merge(a, a)
		if !slices.Equal(a[:cap(a)], wasA) || !slices.Equal(b[:cap(b)], wasB) {
			t.Fatalf("changed: %v to %v, or %v to %v", wasA, a[:cap(a)], wasB, b[:cap(b)])
		}
	}
}

// overwrite fills a list to its capacity.
func overwrite(l []api.Reg) {
	l = l[:cap(l)]
	for i := range l {
		l[i] = api.Reg{Prop: -1, Value: -7, Stamp: at(-3, -3)}
	}
}

func TestAnswersAreNewMemory(t *testing.T) {
	lists := append(goodLists(), someLists(4, 20)...)
	for i, l := range lists {
		a, b := spacious(l), spacious(lists[(i*5+3)%len(lists)])
		wasA, wasB := slices.Clone(a[:cap(a)]), slices.Clone(b[:cap(b)])
		calls := []func() []api.Reg{
			func() []api.Reg { out, _ := Merge(a, b); return out },
			func() []api.Reg { out, _ := Merge(a, nil); return out },
			func() []api.Reg { out, _ := Merge(nil, a); return out },
			func() []api.Reg { out, _ := Merge(a, a); return out },
			func() []api.Reg { out, _ := Set(a, 9, 3, at(1, 0)); return out },
			func() []api.Reg { out, _ := Set(a, 9, 3, at(api.MaxTime, 15)); return out },
		}
		for k, call := range calls {
			first, second := call(), call()
			was := slices.Clone(second)
			overwrite(first)
			if !slices.Equal(a[:cap(a)], wasA) || !slices.Equal(b[:cap(b)], wasB) || !slices.Equal(second, was) || !slices.Equal(call(), was) {
				t.Fatalf("call %d with %v, %v shares memory", k, wasA, wasB)
			}
			// Nor is what is handed in kept.
			overwrite(a)
			overwrite(b)
			if !slices.Equal(second, was) {
				t.Fatalf("call %d keeps what was handed in", k)
			}
			copy(a[:cap(a)], wasA)
			copy(b[:cap(b)], wasB)
		}
	}
}

func TestEqualCallsGiveEqualResults(t *testing.T) {
	for _, a := range append(someLists(5, 20), badLists()[:30]...) {
		for _, b := range someLists(6, 10) {
			x, e := Merge(a, b)
			y, f := Merge(slices.Clone(a), slices.Clone(b))
			if !reflect.DeepEqual(x, y) || e != f {
				t.Errorf("Merge(%v, %v): %v, %d, then %v, %d", a, b, x, e, y, f)
			}
		}
		x, e := Set(a, 9, 3, at(2, 1))
		y, f := Set(slices.Clone(a), 9, 3, at(2, 1))
		if !reflect.DeepEqual(x, y) || e != f {
			t.Errorf("Set(%v): %v, %d, then %v, %d", a, x, e, y, f)
		}
	}
	wantGet(t, nil, 9, 0, api.ErrNone)
	wantGet(t, []api.Reg{}, 9, 0, api.ErrNone)
}

func TestLargeInputs(t *testing.T) {
	many := make([]api.Reg, 1<<20)
	for i := range many {
		many[i] = api.Reg{Prop: i, Value: least(i), Stamp: at(1+i, i%16)}
	}
	wantCheck(t, many, api.ErrForm)
	wantGet(t, many, 9, 0, api.ErrForm)
	wantSetRefused(t, many, 9, 1, at(1, 1))
	wantMergeRefused(t, many, nil)
	wantMergeRefused(t, nil, many)
	wantMergeRefused(t, many, many)
}
