package prop

import (
	"math"
	"slices"
	"testing"

	"arras/api"
)

// row is a property as the document's table has it, in plain numbers.
type row struct {
	prop            int
	name            string
	least, greatest int
	usual           int
	inherited       bool
}

// table is the document's, row by row, with the properties in its order.
func table() []row {
	const coord, weight, space = 1099511627776, 1048576, 1073741824
	return []row{
		{api.PropDisplay, "Display", 0, 2, 0, false},
		{api.PropDirect, "Direct", 0, 1, 0, false},
		{api.PropWrap, "Wrap", 0, 1, 0, false},
		{api.PropWidth, "Width", -1, coord, -1, false},
		{api.PropHeight, "Height", -1, coord, -1, false},
		{api.PropMaxW, "MaxW", -1, coord, -1, false},
		{api.PropMaxH, "MaxH", -1, coord, -1, false},
		{api.PropBasis, "Basis", -1, coord, -1, false},
		{api.PropMinW, "MinW", 0, coord, 0, false},
		{api.PropMinH, "MinH", 0, coord, 0, false},
		{api.PropGrow, "Grow", 0, weight, 0, false},
		{api.PropShrink, "Shrink", 0, weight, 1, false},
		{api.PropMargin, "Margin", 0, space, 0, false},
		{api.PropPad, "Pad", 0, space, 0, false},
		{api.PropGap, "Gap", 0, space, 0, false},
		{api.PropJustify, "Justify", 0, 4, 0, false},
		{api.PropAlign, "Align", 0, 3, 0, false},
		{api.PropColor, "Color", 0, 16777215, 0, true},
		{api.PropFont, "Font", 64, 64000, 1024, true},
	}
}

func (r row) has(value int) bool {
	return r.least <= value && value <= r.greatest
}

// beyond are numbers of no value of any property.
func beyond() []int {
	return []int{math.MinInt, math.MinInt + 1, math.MinInt64 / 2, -api.MaxCoord - 1, -api.MaxCoord, -1 << 32, -1<<31 - 1, -2, api.MaxCoord + 1, 2 * api.MaxCoord, 1 << 62, math.MaxInt - 1, math.MaxInt}
}

// someValues are the small numbers, those around each power of 2 and their negatives, those of no property, and those around the ends of every range.
func someValues() []int {
	out := beyond()
	for n := -70; n <= 1100; n++ {
		out = append(out, n)
	}
	for bit := 7; bit < 63; bit++ {
		out = append(out, 1<<bit-1, 1<<bit, 1<<bit+1, -1<<bit+1, -1<<bit, -1<<bit-1)
	}
	for _, r := range table() {
		for _, end := range []int{r.least, r.usual, r.greatest} {
			// What has the same lower 32 bits is yet another number.
			out = append(out, end-2, end-1, end, end+1, end+2, end+1<<32, end-1<<32)
		}
		out = append(out, r.least+(r.greatest-r.least)/2, r.greatest/3)
	}
	return out
}

// noProps are the numbers of no property, such as have the lower bits of one among them.
func noProps() []int {
	out := []int{-1, -2, -api.Props, -api.Props - 1, api.Props, api.Props + 1, 2 * api.Props, 1 << 40, math.MinInt, math.MinInt + 1, math.MaxInt - 1, math.MaxInt}
	for prop := range api.Props {
		out = append(out, prop-256, prop+32, prop+256, prop+1<<16, prop-1<<32, prop+1<<32, prop+math.MinInt)
	}
	return out
}

// styleOf is the Style that has for each property what pick takes of its row.
func styleOf(pick func(r row) int) api.Style {
	values := make([]int, api.Props)
	for _, r := range table() {
		values[r.prop] = pick(r)
	}
	return api.Style{Values: values}
}

func least(r row) int    { return r.least }
func greatest(r row) int { return r.greatest }
func usual(r row) int    { return r.usual }

// goodStyles have values of their properties at every index, those at the ends of their ranges among them.
func goodStyles() []api.Style {
	return []api.Style{
		styleOf(usual),
		styleOf(least),
		styleOf(greatest),
		styleOf(func(r row) int { return r.least + (r.greatest-r.least)/2 }),
		styleOf(func(r row) int { return r.greatest - (r.greatest-r.least)/3 }),
	}
}

// with is a copy of s in which one value is another.
func with(s api.Style, prop, value int) api.Style {
	values := slices.Clone(s.Values)
	values[prop] = value
	return api.Style{Values: values}
}

func wantCheck(t *testing.T, prop, value int, e api.Errno) {
	t.Helper()
	if got := Check(prop, value); got != e {
		t.Errorf("Check(%d, %d): %d, want %d", prop, value, got, e)
	}
}

func wantAll(t *testing.T, s api.Style, e api.Errno) {
	t.Helper()
	if got := All(s); got != e {
		t.Errorf("All(%v): %d, want %d", s, got, e)
	}
}

func wantPlain(t *testing.T) {
	t.Helper()
	want := []int{0, 0, 0, -1, -1, 0, -1, 0, -1, 0, 1, -1, 0, 0, 0, 0, 0, 0, 1024}
	if got := Plain().Values; !slices.Equal(got, want) {
		t.Errorf("Plain(): %v, want %v", got, want)
	}
}

// The other tests rest on the table: it has every property once.
func TestTheTableHasEveryPropertyOnce(t *testing.T) {
	var props []int
	for _, r := range table() {
		props = append(props, r.prop)
	}
	slices.Sort(props)
	for at, prop := range props {
		if at != prop {
			t.Fatalf("%v", props)
		}
	}
	if len(props) != api.Props {
		t.Fatalf("%d properties", len(props))
	}
}

// P9.1

func TestCheckOfTheExample(t *testing.T) {
	wantCheck(t, api.PropGrow, -1, api.ErrStyle)
}

func TestCheckAtTheEdges(t *testing.T) {
	for _, r := range table() {
		t.Run(r.name, func(t *testing.T) {
			wantCheck(t, r.prop, r.least-1, api.ErrStyle)
			wantCheck(t, r.prop, r.least, api.OK)
			wantCheck(t, r.prop, r.least+1, api.OK)
			wantCheck(t, r.prop, r.greatest-1, api.OK)
			wantCheck(t, r.prop, r.greatest, api.OK)
			wantCheck(t, r.prop, r.greatest+1, api.ErrStyle)
			wantCheck(t, r.prop, math.MinInt, api.ErrStyle)
			wantCheck(t, r.prop, math.MaxInt, api.ErrStyle)
		})
	}
}

func TestCheckOfNamedValues(t *testing.T) {
	for _, c := range []struct {
		prop   int
		values []int
	}{
		{api.PropDisplay, []int{api.DispBlock, api.DispFlex, api.DispNone}},
		{api.PropJustify, []int{api.JustStart, api.JustEnd, api.JustCenter, api.JustBetween, api.JustAround}},
		{api.PropAlign, []int{api.AlignStretch, api.AlignStart, api.AlignEnd, api.AlignCenter}},
		{api.PropDirect, []int{0, 1}},
		{api.PropWrap, []int{0, 1}},
	} {
		for value := -10; value <= 10; value++ {
			e := api.ErrStyle
			if slices.Contains(c.values, value) {
				e = api.OK
			}
			wantCheck(t, c.prop, value, e)
		}
	}
}

func TestCheckOfManyValues(t *testing.T) {
	for _, r := range table() {
		for _, value := range someValues() {
			e := api.ErrStyle
			if r.has(value) {
				e = api.OK
			}
			wantCheck(t, r.prop, value, e)
		}
	}
}

// A property that there is not is told first, be the value one of some property's or of none's.
func TestCheckOfNoProperty(t *testing.T) {
	for _, prop := range noProps() {
		for _, value := range append([]int{-1, 0, 1, 64, 1024, 64000}, beyond()...) {
			wantCheck(t, prop, value, api.ErrNone)
		}
	}
}

func TestDefault(t *testing.T) {
	for _, r := range table() {
		if value, e := Default(r.prop); value != r.usual || e != api.OK {
			t.Errorf("Default of %s: %d, %d, want %d", r.name, value, e, r.usual)
		}
	}
}

func TestDefaultOfNamedValues(t *testing.T) {
	for _, c := range [][2]int{
		{api.PropDisplay, api.DispBlock},
		{api.PropJustify, api.JustStart},
		{api.PropAlign, api.AlignStretch},
		{api.PropFont, 16 * api.Unit},
	} {
		if value, e := Default(c[0]); value != c[1] || e != api.OK {
			t.Errorf("Default(%d): %d, %d, want %d", c[0], value, e, c[1])
		}
	}
}

func TestGoes(t *testing.T) {
	for _, r := range table() {
		if goes, e := Goes(r.prop); goes != r.inherited || e != api.OK {
			t.Errorf("Goes of %s: %t, %d, want %t", r.name, goes, e, r.inherited)
		}
	}
}

func TestDefaultAndGoesOfNoProperty(t *testing.T) {
	for _, prop := range noProps() {
		if value, e := Default(prop); value != 0 || e != api.ErrNone {
			t.Errorf("Default(%d): %d, %d", prop, value, e)
		}
		if goes, e := Goes(prop); goes || e != api.ErrNone {
			t.Errorf("Goes(%d): %t, %d", prop, goes, e)
		}
	}
}

// P9.2

func TestAllOfGoodStyles(t *testing.T) {
	for _, s := range goodStyles() {
		wantAll(t, s, api.OK)
	}
}

func TestAllOfOneEdgeAtEachPlace(t *testing.T) {
	for _, s := range goodStyles() {
		for _, r := range table() {
			wantAll(t, with(s, r.prop, r.least-1), api.ErrForm)
			wantAll(t, with(s, r.prop, r.least), api.OK)
			wantAll(t, with(s, r.prop, r.greatest), api.OK)
			wantAll(t, with(s, r.prop, r.greatest+1), api.ErrForm)
		}
	}
}

func TestAllOfOneValueAtEachPlace(t *testing.T) {
	plain := styleOf(usual)
	for _, r := range table() {
		for _, value := range someValues() {
			e := api.ErrForm
			if r.has(value) {
				e = api.OK
			}
			wantAll(t, with(plain, r.prop, value), e)
		}
	}
}

func TestAllOfSeveralWrongValues(t *testing.T) {
	for _, s := range goodStyles() {
		for first := range api.Props {
			for second := range first {
				wantAll(t, with(with(s, first, math.MaxInt), second, math.MinInt), api.ErrForm)
			}
		}
	}
	for _, value := range beyond() {
		wantAll(t, styleOf(func(row) int { return value }), api.ErrForm)
	}
	wantAll(t, styleOf(func(r row) int { return r.least - 1 }), api.ErrForm)
	wantAll(t, styleOf(func(r row) int { return r.greatest + 1 }), api.ErrForm)
}

// One number at all indexes is never good: the least of PropFont is beyond PropDisplay.
func TestAllOfOneNumberEverywhere(t *testing.T) {
	for _, value := range someValues() {
		wantAll(t, styleOf(func(row) int { return value }), api.ErrForm)
	}
}

func TestAllOfNoValues(t *testing.T) {
	wantAll(t, api.Style{}, api.ErrForm)
	wantAll(t, api.Style{Values: []int{}}, api.ErrForm)
	wantAll(t, api.Style{Values: make([]int, 0, api.Props)}, api.ErrForm)
	// What lies behind the end is not of the Style, good as it may be.
	wantAll(t, api.Style{Values: styleOf(usual).Values[:0]}, api.ErrForm)
}

func TestAllOfTooFewOrTooMany(t *testing.T) {
	for _, s := range goodStyles() {
		for n := range api.Props {
			wantAll(t, api.Style{Values: s.Values[:n]}, api.ErrForm)
			wantAll(t, api.Style{Values: slices.Clone(s.Values[:n])}, api.ErrForm)
			wantAll(t, api.Style{Values: slices.Clone(s.Values[n+1:])}, api.ErrForm)
		}
		for _, further := range []int{0, -1, 1, 64, 1024, math.MinInt, math.MaxInt} {
			wantAll(t, api.Style{Values: append(slices.Clone(s.Values), further)}, api.ErrForm)
			wantAll(t, api.Style{Values: append([]int{further}, s.Values...)}, api.ErrForm)
		}
		wantAll(t, api.Style{Values: slices.Repeat(s.Values, 2)}, api.ErrForm)
		wantAll(t, api.Style{Values: slices.Repeat(s.Values, 257)}, api.ErrForm)
	}
	wantAll(t, api.Style{Values: make([]int, 1<<20)}, api.ErrForm)
}

func TestAllDoesNotGoByWhatLiesBehindTheEnd(t *testing.T) {
	for _, s := range goodStyles() {
		longer := append(slices.Clone(s.Values), math.MinInt, math.MaxInt)
		wantAll(t, api.Style{Values: longer[:api.Props]}, api.OK)
	}
}

func TestPlain(t *testing.T) {
	wantPlain(t)
	if s, want := Plain(), styleOf(usual); !slices.Equal(s.Values, want.Values) {
		t.Errorf("Plain(): %v, want %v", s, want)
	}
	for prop, value := range Plain().Values {
		if want, e := Default(prop); value != want || e != api.OK {
			t.Errorf("%d: %d, while Default is %d, %d", prop, value, want, e)
		}
	}
}

// P9.3

func TestDefaultIsOneOfItsValues(t *testing.T) {
	for prop := range api.Props {
		value, e := Default(prop)
		if e != api.OK {
			t.Errorf("Default(%d): %d", prop, e)
		}
		wantCheck(t, prop, value, api.OK)
	}
}

func TestPlainPassesAll(t *testing.T) {
	wantAll(t, Plain(), api.OK)
}

// R1 and R2

func TestAllChangesNothing(t *testing.T) {
	styles := goodStyles()
	for prop := range api.Props {
		styles = append(styles, with(styleOf(usual), prop, math.MinInt), with(styleOf(greatest), prop, math.MaxInt))
	}
	for _, s := range styles {
		for n := range api.Props + 2 {
			// The spare capacity is the caller's, too.
			whole := append(slices.Clone(s.Values), 7, 8, 9)
			before := slices.Clone(whole)
			All(api.Style{Values: whole[:n]})
			if !slices.Equal(whole, before) {
				t.Errorf("All of the first %d of %v left %v", n, before, whole)
			}
		}
	}
}

func TestPlainIsNewEachTime(t *testing.T) {
	earlier, one, later := Plain(), Plain(), Plain()
	whole := one.Values[:cap(one.Values)]
	for at := range whole {
		whole[at] = 1000 + at
	}
	_ = append(one.Values, 1, 2, 3)
	for _, other := range []api.Style{earlier, later, Plain()} {
		if !slices.Equal(other.Values, styleOf(usual).Values) {
			t.Errorf("another one became %v", other)
		}
	}
	for _, r := range table() {
		if value, e := Default(r.prop); value != r.usual || e != api.OK {
			t.Errorf("Default of %s became %d, %d", r.name, value, e)
		}
		wantCheck(t, r.prop, r.greatest+1, api.ErrStyle)
	}
	for at, value := range whole {
		if value != 1000+at {
			t.Errorf("what was written at %d became %d", at, value)
		}
	}
}

func TestEqualCallsGiveEqualResults(t *testing.T) {
	for range 3 {
		for _, r := range table() {
			wantCheck(t, r.prop, r.least, api.OK)
			wantCheck(t, r.prop, r.least-1, api.ErrStyle)
		}
		wantAll(t, styleOf(greatest), api.OK)
		wantAll(t, api.Style{}, api.ErrForm)
		wantPlain(t)
	}
}
