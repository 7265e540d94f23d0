package point

import (
	"math"
	"testing"

	"arras/api"
)

// box is a box in whole numbers: its corner and its size.
type box struct{ x, y, w, h int }

func (b box) corner() complex128 { return at(b.x, b.y) }
func (b box) size() complex128   { return at(b.w, b.h) }
func (b box) right() int         { return within(b.x + b.w) }
func (b box) bottom() int        { return within(b.y + b.h) }

func (b box) contains(x, y int) bool {
	return b.x <= x && x < b.right() && b.y <= y && y < b.bottom()
}

// isWhole tells whether the box ends where its size says.
func (b box) isWhole() bool {
	return b.x+b.w <= top && b.y+b.h <= top
}

// joined is Join by another way.
func joined(a, b box) box {
	x, y := min(a.x, b.x), min(a.y, b.y)
	return box{x, y, within(max(a.right(), b.right()) - x), within(max(a.bottom(), b.bottom()) - y)}
}

// common is Meet by another way.
func common(a, b box) box {
	x, y := max(a.x, b.x), max(a.y, b.y)
	right, bottom := min(a.right(), b.right()), min(a.bottom(), b.bottom())
	if right <= x || bottom <= y {
		return box{}
	}
	return box{x, y, within(right - x), within(bottom - y)}
}

// boxes are those of the edges, and the smaller ones about the origin.
func boxes() []box {
	out := []box{
		{-top, -top, top, top}, {-top, -top, 0, 0}, {-top, -top, 1, 1}, {top, top, 0, 0}, {top, top, top, top}, {top - 1, top - 1, 1, 1}, {top - 1, top - 1, 2, 2},
		{0, 0, top, top}, {1, 1, top, top}, {1, 1, top - 1, top - 1}, {-1, -1, top, top}, {-top, 0, top, 1}, {0, -top, 1, top}, {top, -top, 0, top}, {-top, top, top, 5},
	}
	next := spread(11)
	for range 60 {
		out = append(out, box{next(7) - 3, next(7) - 3, next(5), next(5)})
	}
	for range 30 {
		out = append(out, box{next(2*top+1) - top, next(2*top+1) - top, next(top + 1), next(top + 1)})
	}
	return out
}

// edgesOf returns the places about the edges of a number's span, without those that are no coordinates.
func edgesOf(start, end int) []int {
	var out []int
	for _, n := range []int{-top, start - 1, start, start + 1, end - 1, end, end + 1, top} {
		if within(n) == n {
			out = append(out, n)
		}
	}
	return out
}

func wantBox(t *testing.T, what string, corner, size complex128, err api.Errno, want box) {
	t.Helper()
	if !same(corner, want.corner()) || !same(size, want.size()) || err != api.OK {
		t.Errorf("%s: %v, %v, error %d; want %v", what, corner, size, err, want)
	}
}

func has(t *testing.T, corner, size, p complex128) bool {
	t.Helper()
	inside, err := Has(corner, size, p)
	if err != api.OK {
		t.Errorf("Has(%v, %v, %v): error %d", corner, size, p, err)
	}
	return inside
}

// P3.2

func TestHas(t *testing.T) {
	for _, c := range []struct {
		b    box
		x, y int
		want bool
	}{
		{box{1, 2, 3, 4}, 1, 2, true}, {box{1, 2, 3, 4}, 3, 5, true}, {box{1, 2, 3, 4}, 2, 3, true},
		{box{1, 2, 3, 4}, 4, 3, false}, {box{1, 2, 3, 4}, 2, 6, false}, {box{1, 2, 3, 4}, 4, 6, false},
		{box{1, 2, 3, 4}, 0, 3, false}, {box{1, 2, 3, 4}, 2, 1, false},
		{box{5, 5, 0, 0}, 5, 5, false}, {box{5, 5, 0, 9}, 5, 6, false}, {box{5, 5, 9, 0}, 6, 5, false},
		{box{0, 0, 1, 1}, 0, 0, true}, {box{-1, -1, 1, 1}, -1, -1, true}, {box{-1, -1, 1, 1}, 0, 0, false},
		{box{-top, -top, 1, 1}, -top, -top, true}, {box{-top, -top, top, top}, -1, -1, true}, {box{-top, -top, top, top}, 0, 0, false},
		{box{top - 1, 0, 9, 9}, top - 1, 0, true}, {box{top - 1, 0, 9, 9}, top, 0, false}, {box{0, top - 1, 9, 9}, 0, top, false},
		{box{top, top, top, top}, top, top, false}, {box{0, 0, top, top}, top, top, false}, {box{0, 0, top, top}, top - 1, top - 1, true},
	} {
		if got := has(t, c.b.corner(), c.b.size(), at(c.x, c.y)); got != c.want {
			t.Errorf("Has(%v, %d, %d): %v", c.b, c.x, c.y, got)
		}
	}
}

func TestHasAboutTheEdges(t *testing.T) {
	for _, b := range boxes() {
		for _, x := range edgesOf(b.x, b.right()) {
			for _, y := range edgesOf(b.y, b.bottom()) {
				if got := has(t, b.corner(), b.size(), at(x, y)); got != b.contains(x, y) {
					t.Errorf("Has(%v, %d, %d): %v", b, x, y, got)
				}
			}
		}
	}
}

func TestJoin(t *testing.T) {
	for _, c := range []struct{ a, b, want box }{
		{box{0, 0, 2, 3}, box{5, 7, 1, 1}, box{0, 0, 6, 8}},
		{box{0, 7, 2, 3}, box{5, 1, 1, 1}, box{0, 1, 6, 9}},
		{box{0, 0, 9, 9}, box{2, 3, 1, 1}, box{0, 0, 9, 9}},
		{box{-4, -5, 0, 0}, box{4, 5, 0, 0}, box{-4, -5, 8, 10}},
		{box{0, 0, 0, 0}, box{0, 0, 0, 0}, box{0, 0, 0, 0}},
		{box{3, 3, 0, 0}, box{3, 3, 0, 0}, box{3, 3, 0, 0}},
		{box{-top, -top, 0, 0}, box{top, top, 0, 0}, box{-top, -top, top, top}},
		{box{-top, 0, 1, 1}, box{0, 0, 1, 1}, box{-top, 0, top, 1}},
		{box{-top, 0, 1, 1}, box{-1, 0, 1, 1}, box{-top, 0, top, 1}},
		{box{top - 1, 5, 9, 9}, box{top, 2, 9, 9}, box{top - 1, 2, 1, 12}},
	} {
		corner, size, err := Join(c.a.corner(), c.a.size(), c.b.corner(), c.b.size())
		wantBox(t, "Join", corner, size, err, c.want)
	}
}

func TestMeet(t *testing.T) {
	for _, c := range []struct{ a, b, want box }{
		{box{0, 0, 5, 5}, box{3, 2, 9, 9}, box{3, 2, 2, 3}},
		{box{0, 2, 5, 5}, box{3, 0, 9, 3}, box{3, 2, 2, 1}},
		{box{0, 0, 9, 9}, box{2, 3, 1, 1}, box{2, 3, 1, 1}},
		{box{-4, -4, 4, 4}, box{-2, -3, 9, 9}, box{-2, -3, 2, 3}},
		// They only touch.
		{box{1, 1, 2, 2}, box{3, 1, 2, 2}, box{}},
		{box{1, 1, 2, 2}, box{1, 3, 2, 2}, box{}},
		{box{1, 1, 2, 2}, box{3, 3, 2, 2}, box{}},
		// They are apart, to the right, downwards or both.
		{box{1, 1, 2, 2}, box{4, 1, 2, 2}, box{}},
		{box{1, 1, 2, 2}, box{1, 4, 2, 2}, box{}},
		{box{1, 1, 2, 2}, box{9, 9, 2, 2}, box{}},
		{box{-top, -top, 1, 1}, box{top - 1, top - 1, 1, 1}, box{}},
		// One has a size of 0.
		{box{2, 2, 0, 0}, box{1, 1, 5, 5}, box{}},
		{box{2, 2, 0, 3}, box{1, 1, 5, 5}, box{}},
		{box{2, 2, 3, 0}, box{1, 1, 5, 5}, box{}},
		{box{2, 2, 0, 0}, box{2, 2, 0, 0}, box{}},
		// Their far corners are saturated.
		{box{top - 1, top - 2, 9, 9}, box{0, 0, top, top}, box{top - 1, top - 2, 1, 2}},
		{box{top, 0, 9, 9}, box{top, 0, 9, 9}, box{}},
		{box{0, top, 9, 9}, box{0, top, 9, 9}, box{}},
	} {
		corner, size, err := Meet(c.a.corner(), c.a.size(), c.b.corner(), c.b.size())
		wantBox(t, "Meet", corner, size, err, c.want)
		corner, size, err = Meet(c.b.corner(), c.b.size(), c.a.corner(), c.a.size())
		wantBox(t, "Meet the other way round", corner, size, err, c.want)
	}
}

func TestJoinAndMeetOfAllPairs(t *testing.T) {
	for _, a := range boxes() {
		for _, b := range boxes() {
			corner, size, err := Join(a.corner(), a.size(), b.corner(), b.size())
			wantBox(t, "Join", corner, size, err, joined(a, b))
			corner, size, err = Meet(a.corner(), a.size(), b.corner(), b.size())
			wantBox(t, "Meet", corner, size, err, common(a, b))
		}
	}
}

func TestBoxesWithMinusZero(t *testing.T) {
	minus := math.Copysign(0, -1)
	none := complex(minus, minus)
	for _, p := range []complex128{0, none, complex(minus, 0), complex(0, minus)} {
		for _, corner := range []complex128{0, none, complex(minus, 0), complex(0, minus)} {
			if !has(t, corner, at(1, 1), p) || has(t, corner, none, p) || has(t, corner, complex(minus, 1), p) || has(t, corner, complex(1, minus), p) {
				t.Errorf("the corner %v and the place %v", corner, p)
			}
			got, size, err := Join(corner, none, p, none)
			wantBox(t, "Join", got, size, err, box{})
			got, size, err = Join(corner, complex(4, minus), p, complex(minus, 3))
			wantBox(t, "Join", got, size, err, box{0, 0, 4, 3})
			got, size, err = Meet(corner, at(2, 3), p, at(4, 1))
			wantBox(t, "Meet", got, size, err, box{0, 0, 2, 1})
			got, size, err = Meet(corner, none, p, none)
			wantBox(t, "Meet", got, size, err, box{})
		}
	}
}

func TestHasRefuses(t *testing.T) {
	check := func(corner, size, p complex128) {
		if inside, err := Has(corner, size, p); inside || err != api.ErrForm {
			t.Errorf("Has(%v, %v, %v): %v, error %d; want false, ErrForm", corner, size, p, inside, err)
		}
	}
	for _, wrong := range wrongPoints() {
		check(wrong, at(5, 5), 0)
		check(0, at(5, 5), wrong)
		check(wrong, wrong, wrong)
	}
	for _, wrong := range wrongSizes() {
		check(0, wrong, 0)
		check(at(-5, -5), wrong, at(-6, -6))
	}
}

func TestJoinAndMeetRefuse(t *testing.T) {
	for _, f := range []func(a, as, b, bs complex128) (complex128, complex128, api.Errno){Join, Meet} {
		check := func(a, as, b, bs complex128) {
			corner, size, err := f(a, as, b, bs)
			wantForm(t, "the corner", corner, err)
			wantForm(t, "the size", size, err)
		}
		for _, wrong := range wrongPoints() {
			check(wrong, at(5, 5), at(1, 1), at(5, 5))
			check(at(1, 1), at(5, 5), wrong, at(5, 5))
			check(wrong, wrong, wrong, wrong)
		}
		for _, wrong := range wrongSizes() {
			check(at(1, 1), wrong, at(1, 1), at(5, 5))
			check(at(1, 1), at(5, 5), at(1, 1), wrong)
			check(at(1, 1), wrong, at(1, 1), wrong)
		}
	}
}

// P3.3

func TestMeetContainsWhatBothContain(t *testing.T) {
	eachWholePair(func(a, b box) {
		corner, size, err := Meet(a.corner(), a.size(), b.corner(), b.size())
		if err != api.OK {
			t.Errorf("Meet(%v, %v): error %d", a, b, err)
		}
		eachPlace(a, b, func(p complex128) {
			both := has(t, a.corner(), a.size(), p) && has(t, b.corner(), b.size(), p)
			if has(t, corner, size, p) != both {
				t.Errorf("Meet(%v, %v): %v, %v has %v: %v", a, b, corner, size, p, !both)
			}
		})
	})
}

func TestJoinContainsBoth(t *testing.T) {
	eachWholePair(func(a, b box) {
		corner, size, err := Join(a.corner(), a.size(), b.corner(), b.size())
		if err != api.OK {
			t.Errorf("Join(%v, %v): error %d", a, b, err)
		}
		eachPlace(a, b, func(p complex128) {
			either := has(t, a.corner(), a.size(), p) || has(t, b.corner(), b.size(), p)
			if either && !has(t, corner, size, p) {
				t.Errorf("Join(%v, %v): %v, %v lacks %v", a, b, corner, size, p)
			}
		})
	})
}

// eachWholePair goes through the pairs of boxes where neither Meet nor Join saturates.
func eachWholePair(do func(a, b box)) {
	for _, a := range boxes() {
		for _, b := range boxes() {
			width := max(a.right(), b.right()) - min(a.x, b.x)
			height := max(a.bottom(), b.bottom()) - min(a.y, b.y)
			if a.isWhole() && b.isWhole() && width <= top && height <= top {
				do(a, b)
			}
		}
	}
}

// eachPlace goes through the places about the edges of two boxes.
func eachPlace(a, b box, do func(p complex128)) {
	for _, x := range append(edgesOf(a.x, a.right()), edgesOf(b.x, b.right())...) {
		for _, y := range append(edgesOf(a.y, a.bottom()), edgesOf(b.y, b.bottom())...) {
			do(at(x, y))
		}
	}
}
