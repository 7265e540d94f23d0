package key

import (
	"slices"
	"strings"
	"testing"

	"arras/api"
)

// spread returns n words, the same in every run.
func spread(seed uint64, n int) []uint64 {
	out := make([]uint64, n)
	for i := range out {
		seed = seed*6364136223846793005 + 1442695040888963407
		out[i] = seed>>17 ^ seed<<29
	}
	return out
}

func many(b byte, n int) string {
	return strings.Repeat(string([]byte{b}), n)
}

// smallTexts are all of at most n bytes out of some, the empty one among them.
func smallTexts(n int, some ...byte) []string {
	out := []string{""}
	last := out
	for range n {
		var longer []string
		for _, s := range last {
			for _, b := range some {
				longer = append(longer, s+string([]byte{b}))
			}
		}
		out, last = append(out, longer...), longer
	}
	return out
}

// mixed returns a key of n bytes, many of them 0, 1, 254 and 255.
func mixed(seed uint64, n int) string {
	edges := []byte{0, 0, 1, 127, 128, 254, 255, 255}
	out := make([]byte, n)
	for i, word := range spread(seed, n) {
		out[i] = byte(word >> 40)
		if word>>20%3 != 0 {
			out[i] = edges[word>>30%8]
		}
	}
	out[n-1] |= 1
	return string(out)
}

// goodKeys are of every length, with edges at every place, and all of the short ones with edges alone.
func goodKeys() []string {
	var out []string
	for n := 1; n <= api.MaxKey; n++ {
		out = append(out, many(1, n), many(128, n), many(255, n), many(0, n-1)+"\x01", many(0, n-1)+"\xff", many(255, n-1)+"\x01")
		for seed := range 6 {
			out = append(out, mixed(uint64(100*n+seed), n))
		}
	}
	for _, s := range smallTexts(4, 0, 1, 2, 254, 255) {
		if plainKey(s) {
			out = append(out, s)
		}
	}
	return out
}

// badKeys are wrong by their length or by their last byte; the empty one is none of them, since Between takes it for no limit.
func badKeys() []string {
	out := []string{"\x00", "a\x00", "\x01\x00", "\xff\x00", "\x00\x00", "\x00a\x00", "a\x00\x00"}
	for n := 1; n <= api.MaxKey+2; n++ {
		out = append(out, many(0, n), many(255, n)+"\x00", many(7, n-1)+"\x00")
	}
	for _, n := range []int{api.MaxKey + 1, api.MaxKey + 2, 2 * api.MaxKey, 256, 256 + api.MaxKey, 1 << 16, 1<<16 + 1} {
		out = append(out, many('a', n), many(255, n), many(1, n), many(0, n-1)+"\x01")
	}
	return out
}

func plainKey(s string) bool {
	return len(s) >= 1 && len(s) <= 64 && !strings.HasSuffix(s, "\x00")
}

// plainBetween goes by the document's words, position by position, and stops far behind the longest key.
func plainBetween(a, b string) (string, api.Errno) {
	if a != "" && !plainKey(a) || b != "" && !plainKey(b) || a != "" && b != "" && strings.Compare(a, b) >= 0 {
		return "", api.ErrForm
	}
	used := b != ""
	out := ""
	for i := range 200 {
		x, y := 0, 256
		if i < len(a) {
			x = int(a[i])
		}
		if used {
			y = int(b[i])
		}
		if y-x >= 2 {
			out += string([]byte{byte((x + y) / 2)})
			break
		}
		out += string([]byte{byte(x)})
		used = used && y != x+1
	}
	if len(out) > 64 {
		return "", api.ErrFull
	}
	return out, api.OK
}

// within tells whether k lies above a and below b.
func within(a, k, b string) bool {
	return strings.Compare(a, k) < 0 && (b == "" || strings.Compare(k, b) < 0)
}

func wantCheck(t *testing.T, k string, e api.Errno) {
	t.Helper()
	if got := Check(k); got != e {
		t.Errorf("Check(%q): %d, want %d", k, got, e)
	}
}

func wantBetween(t *testing.T, a, b, k string, e api.Errno) {
	t.Helper()
	if gotK, gotE := Between(a, b); gotK != k || gotE != e {
		t.Errorf("Between(%q, %q): %q, %d, want %q, %d", a, b, gotK, gotE, k, e)
	}
}

// wantPlain holds a pair of limits against the plain counterpart, and a key against its definition.
func wantPlain(t *testing.T, a, b string) {
	t.Helper()
	k, e := plainBetween(a, b)
	wantBetween(t, a, b, k, e)
	if e == api.OK && (!plainKey(k) || !within(a, k, b)) {
		t.Errorf("Between(%q, %q): %q, which is no key between them", a, b, k)
	}
}

// P8.1

func TestCheckAtTheEdges(t *testing.T) {
	for _, c := range []struct {
		k string
		e api.Errno
	}{
		{"", api.ErrForm},
		{"\x00", api.ErrForm},
		{"\x01", api.OK},
		{"a", api.OK},
		{"\xff", api.OK},
		{"\x00\x01", api.OK},
		{"\x00\x00\x01", api.OK},
		{"\x01\x00", api.ErrForm},
		{"\x01\x00\x01", api.OK},
		{"\xff\x00\xff", api.OK},
		{"\xff\xff\x00", api.ErrForm},
		{many('a', 63), api.OK},
		{many('a', 64), api.OK},
		{many('a', 65), api.ErrForm},
		{many(0, 63) + "\x01", api.OK},
		{many(0, 64) + "\x01", api.ErrForm},
		{many(255, 63) + "\x00", api.ErrForm},
		{many(255, 64), api.OK},
		{many(255, 65), api.ErrForm},
		// A letter of several bytes, and bytes that are no letter.
		{"\u00e9", api.OK},
		{"\xc3", api.OK},
		{strings.Repeat("\u00e9", 32), api.OK},
		{strings.Repeat("\u00e9", 33), api.ErrForm},
	} {
		wantCheck(t, c.k, c.e)
	}
}

func TestCheckOfEveryLastByte(t *testing.T) {
	for last := range 256 {
		e := api.OK
		if last == 0 {
			e = api.ErrForm
		}
		for _, before := range []string{"", "\x00", "a", "\xff", many(0, 63), many(255, 63)} {
			wantCheck(t, before+string([]byte{byte(last)}), e)
		}
	}
}

func TestCheckOfManyKeys(t *testing.T) {
	for _, k := range goodKeys() {
		wantCheck(t, k, api.OK)
	}
	for _, k := range badKeys() {
		wantCheck(t, k, api.ErrForm)
	}
}

func TestBetweenOfTheExamples(t *testing.T) {
	wantBetween(t, "", "", "\x80", api.OK)
	wantBetween(t, "\x01", "\x02", "\x01\x80", api.OK)
}

func TestBetweenOfKnownLimits(t *testing.T) {
	for _, c := range []struct{ a, b, k string }{
		// No limit above.
		{"\x01", "", "\x80"},
		{"\x02", "", "\x81"},
		{"\x80", "", "\xc0"},
		{"\xfd", "", "\xfe"},
		{"\xfe", "", "\xff"},
		{"\xff", "", "\xff\x80"},
		{"\xff\xff", "", "\xff\xff\x80"},
		{"\xff\xfe", "", "\xff\xff"},
		{"\xff\x03", "", "\xff\x81"},
		{"\x00\x01", "", "\x80"},
		// No limit below.
		{"", "\xff", "\x7f"},
		{"", "\x80", "\x40"},
		{"", "\x03", "\x01"},
		{"", "\x02", "\x01"},
		{"", "\x01", "\x00\x80"},
		{"", "\x01\x01", "\x00\x80"},
		{"", "\x02\x01", "\x01"},
		{"", "\x00\x01", "\x00\x00\x80"},
		{"", "\x00\x02", "\x00\x01"},
		{"", "\x00\xff", "\x00\x7f"},
		// Apart by two or more.
		{"\x01", "\x03", "\x02"},
		{"\x01", "\x04", "\x02"},
		{"\x01", "\x05", "\x03"},
		{"\x01", "\xff", "\x80"},
		{"\x10\xff", "\x12", "\x11"},
		{"\x10\xff\xff", "\x12\x01", "\x11"},
		// Apart by one in one byte.
		{"\x05", "\x06", "\x05\x80"},
		{"\x05\xff", "\x06", "\x05\xff\x80"},
		{"\x05\xfe", "\x06", "\x05\xff"},
		{"\x05\x10", "\x06", "\x05\x88"},
		{"\x05\x10", "\x06\x01", "\x05\x88"},
		{"\x05\x10", "\x06\x12\x07", "\x05\x88"},
		{"\x05", "\x06\x01", "\x05\x80"},
		{"\x05\x00\x07", "\x06", "\x05\x80"},
		{"\xfe", "\xff", "\xfe\x80"},
		{"\xfe\xff", "\xff", "\xfe\xff\x80"},
		{"a\x01z", "a\x02z", "a\x01\xbd"},
		// One the beginning of the other.
		{"\x05", "\x05\x01", "\x05\x00\x80"},
		{"\x05", "\x05\x02", "\x05\x01"},
		{"\x05", "\x05\xff", "\x05\x7f"},
		{"\x05", "\x05\x00\x01", "\x05\x00\x00\x80"},
		{"\x05", "\x05\x00\x00\x02", "\x05\x00\x00\x01"},
		{"\xff", "\xff\x01", "\xff\x00\x80"},
		// The next one above at the same length: nothing of that length fits.
		{"a\x01", "a\x02", "a\x01\x80"},
		{"a\xff", "b\x01", "a\xff\x80"},
	} {
		wantBetween(t, c.a, c.b, c.k, api.OK)
		wantPlain(t, c.a, c.b)
	}
}

func TestBetweenOfSingleBytes(t *testing.T) {
	for x := range 256 {
		for y := range 256 {
			wantPlain(t, string([]byte{byte(x)}), string([]byte{byte(y)}))
		}
		wantPlain(t, string([]byte{byte(x)}), "")
		wantPlain(t, "", string([]byte{byte(x)}))
	}
}

func TestBetweenOfAllSmallTexts(t *testing.T) {
	all := smallTexts(4, 0, 1, 2, 254, 255)
	for _, a := range all {
		for _, b := range all {
			wantPlain(t, a, b)
		}
	}
}

func TestBetweenOfManyKeys(t *testing.T) {
	keys := append(goodKeys(), "")
	for i, a := range keys {
		for j := range 40 {
			wantPlain(t, a, keys[(7*i+31*j)%len(keys)])
		}
		wantPlain(t, a, "")
		wantPlain(t, "", a)
	}
}

// Limits that agree up to a place, with every kind of difference there.
func TestBetweenBehindACommonBeginning(t *testing.T) {
	ends := smallTexts(2, 0, 1, 2, 128, 255)
	for n := range api.MaxKey {
		begin := mixed(uint64(n), n+1)
		for _, a := range ends {
			for _, b := range ends {
				wantPlain(t, begin+a, begin+b)
			}
		}
	}
}

func TestBetweenAtTheLongestKey(t *testing.T) {
	// Just MaxKey bytes.
	wantBetween(t, many(255, 63), "", many(255, 63)+"\x80", api.OK)
	wantBetween(t, many(255, 63)+"\xfe", "", many(255, 64), api.OK)
	wantBetween(t, many(255, 63)+"\x01", "", many(255, 63)+"\x80", api.OK)
	wantBetween(t, "", many(0, 62)+"\x01", many(0, 63)+"\x80", api.OK)
	wantBetween(t, "", many(0, 63)+"\x02", many(0, 63)+"\x01", api.OK)
	wantBetween(t, many('a', 63), many('a', 63)+"\x02", many('a', 63)+"\x01", api.OK)
	wantBetween(t, many('a', 62)+"\x01", many('a', 62)+"\x02", many('a', 62)+"\x01\x80", api.OK)
	wantBetween(t, many('a', 64), many('a', 63)+"c", many('a', 63)+"b", api.OK)
	// One byte more.
	wantBetween(t, many(255, 64), "", "", api.ErrFull)
	wantBetween(t, "", many(0, 63)+"\x01", "", api.ErrFull)
	wantBetween(t, many('a', 63), many('a', 63)+"\x01", "", api.ErrFull)
	wantBetween(t, many('a', 64), many('a', 63)+"b", "", api.ErrFull)
	wantBetween(t, many('a', 62)+"\x01\xff", many('a', 62)+"\x02", "", api.ErrFull)
	// Long limits with room early.
	wantBetween(t, many('a', 64), many('c', 64), "b", api.OK)
	wantBetween(t, many('a', 64), "", "\xb0", api.OK)
	wantBetween(t, "", many('a', 64), "\x30", api.OK)
	wantBetween(t, "a"+many(1, 63), "b"+many(1, 63), "a\x80", api.OK)
}

func TestBetweenRefusesTheWrongOrder(t *testing.T) {
	for _, k := range goodKeys() {
		wantBetween(t, k, k, "", api.ErrForm)
	}
	for _, c := range [][2]string{
		{"b", "a"},
		{"\x02", "\x01"},
		{"\xff", "\x01"},
		{"ab", "a"},
		{"a\x00\x01", "a"},
		{"a\x01\x01", "a\x01"},
		{"\x01", "\x00\x01"},
		{"\x00\x01", "\x00\x00\x01"},
		{many('a', 64), many('a', 63)},
		{many(255, 64), "\x01"},
		// No room, and yet first of all in the wrong order.
		{many(255, 64), many(255, 64)},
		{many(255, 64), many(255, 63)},
		{many(0, 63) + "\x02", many(0, 63) + "\x01"},
	} {
		wantBetween(t, c[0], c[1], "", api.ErrForm)
	}
	// The order is that of bytes, not of letters or of signed numbers.
	wantBetween(t, "\x7f", "\x80", "\x7f\x80", api.OK)
	wantBetween(t, "\x80", "\x7f", "", api.ErrForm)
}

func TestBetweenRefusesWhatIsNoKeyOnEitherSide(t *testing.T) {
	for _, bad := range badKeys() {
		wantBetween(t, bad, "", "", api.ErrForm)
		wantBetween(t, "", bad, "", api.ErrForm)
		wantBetween(t, bad, bad, "", api.ErrForm)
		for _, good := range []string{"\x01", "a", "\xff", "\x00\x01", many(255, 64), many(0, 63) + "\x01"} {
			wantBetween(t, bad, good, "", api.ErrForm)
			wantBetween(t, good, bad, "", api.ErrForm)
		}
	}
}

// P8.2

// placeUntilFull places keys one by one between the limits that next names for the last one, and returns how many had room.
func placeUntilFull(t *testing.T, a, b string, next func(a, k, b string) (string, string)) int {
	t.Helper()
	for placed := range 100000 {
		k, e := Between(a, b)
		if e == api.ErrFull && k == "" {
			return placed
		}
		if e != api.OK || Check(k) != api.OK || !within(a, k, b) {
			t.Fatalf("Between(%q, %q): %q, %d", a, b, k, e)
		}
		a, b = next(a, k, b)
	}
	t.Fatal("there is always room")
	return 0
}

func behindAll(a, k, b string) (string, string)  { return k, b }
func aheadOfAll(a, k, b string) (string, string) { return a, k }

// The first one has half of the byte's room, and each further one half of what is left: eight to the byte.
func TestPlacedBehindUntilFull(t *testing.T) {
	if n := placeUntilFull(t, "", "", behindAll); n != 8*api.MaxKey {
		t.Errorf("%d had room behind all", n)
	}
	if n := placeUntilFull(t, "\x01", "\x02", behindAll); n != 8*(api.MaxKey-1) {
		t.Errorf("%d had room behind all below a limit", n)
	}
}

// Downwards a byte's last value is 1, behind which the next byte begins anew: eight to the byte again.
func TestPlacedAheadUntilFull(t *testing.T) {
	if n := placeUntilFull(t, "", "", aheadOfAll); n != 8*api.MaxKey {
		t.Errorf("%d had room ahead of all", n)
	}
	if n := placeUntilFull(t, "\x05", "\x05\x01", aheadOfAll); n != 8*(api.MaxKey-2) {
		t.Errorf("%d had room ahead of all above a limit", n)
	}
}

func TestPlacedBetweenByTurnsUntilFull(t *testing.T) {
	for seed := range uint64(20) {
		words := spread(seed, 100000)
		turn := -1
		n := placeUntilFull(t, "", "", func(a, k, b string) (string, string) {
			turn++
			if words[turn]>>30%2 == 0 {
				return a, k
			}
			return k, b
		})
		if n < api.MaxKey {
			t.Errorf("only %d had room", n)
		}
	}
}

func TestPlacedAnywhereLieInOrder(t *testing.T) {
	row := []string{"", ""}
	for _, word := range spread(11, 2000) {
		at := int(word>>30) % (len(row) - 1)
		k, e := Between(row[at], row[at+1])
		if e == api.ErrFull && k == "" {
			continue
		}
		if e != api.OK {
			t.Fatalf("Between(%q, %q): %q, %d", row[at], row[at+1], k, e)
		}
		row = slices.Insert(row, at+1, k)
	}
	keys := row[1 : len(row)-1]
	for i, k := range keys {
		wantCheck(t, k, api.OK)
		if i > 0 && strings.Compare(keys[i-1], k) >= 0 {
			t.Errorf("%q ahead of %q", keys[i-1], k)
		}
	}
	if len(keys) < 1500 {
		t.Errorf("only %d keys", len(keys))
	}
}

// R1 and R2

func TestEqualCallsGiveEqualResults(t *testing.T) {
	keys := goodKeys()
	for i, a := range keys {
		b := keys[(13*i+5)%len(keys)]
		k, e := Between(a, b)
		again, againE := Between(strings.Clone(a), strings.Clone(b))
		if k != again || e != againE {
			t.Errorf("Between(%q, %q): %q, %d, then %q, %d", a, b, k, e, again, againE)
		}
	}
}

func TestVeryLongTextsAreRefused(t *testing.T) {
	long := many('a', 1<<24)
	wantCheck(t, long, api.ErrForm)
	wantBetween(t, long, "", "", api.ErrForm)
	wantBetween(t, "", long, "", api.ErrForm)
	wantBetween(t, long, long+"b", "", api.ErrForm)
}
