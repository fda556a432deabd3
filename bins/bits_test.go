package bins_test

import (
	"math"
	"slices"
	"strings"
	"testing"

	"zoetrope/api"
	"zoetrope/bins"
)

// told holds Bits against the model.
func told(t *testing.T, el, v, most int) {
	t.Helper()
	want, wantCode := "", api.ErrBinsForm
	if mayBe(el, v, most) {
		want, wantCode = binsOf(el, v, most), api.OK
	}
	if s, code := bins.Bits(el, v, most); s != want || code != wantCode {
		t.Fatalf("P6.1: %d, %d of %d: %q, %d, want %q, %d", el, v, most, s, code, want, wantCode)
	}
}

// P6.1: elements as the chapter's words spell them, letter by letter.
func TestSpelled(t *testing.T) {
	for _, c := range []struct {
		el, v, most int
		want        string
	}{
		{api.ElSkip, 0, 0, "0"}, {api.ElMore, 1, -7, "1"}, {api.ElEnd, 1, 1 << 40, "1"},
		{api.ElType, 0, 1, "0"}, {api.ElType, 1, 1, "1"}, {api.ElCbp, 1, 2, "10"}, {api.ElCbp, 2, 2, "11"},
		{api.ElRem, 6, 7, "1111110"}, {api.ElRem, 7, 7, "1111111"},
		{api.ElQp, 0, 0, "0"}, {api.ElQp, 1, 0, "10a"}, {api.ElQp, -1, 0, "10b"}, {api.ElMvdX, 8, 0, "111111110a"},
		{api.ElMvdX, -9, 0, "111111111aaaab"}, {api.ElMvdX, 10, 0, "111111111aaaba"}, {api.ElMvdX, 16, 0, "111111111abbba"},
		{api.ElMvdY, 17, 0, "111111111baaaaaa"}, {api.ElMvdY, 32, 0, "111111111babbbba"}, {api.ElMvdY, 33, 0, "111111111bbaaaaaaa"},
		{api.ElMvdX, 32767, 0, "111111111" + "bbbbbbbbbbba" + "bbbbbbbbbbbbba" + "a"},
		{api.ElQp, -32767, 0, "111111111" + "bbbbbbbbbbba" + "bbbbbbbbbbbbba" + "b"},
		{api.ElOne, 0, 0, "0"}, {api.ElOne, 13, 0, "11111111111110"}, {api.ElOne, 14, 0, "11111111111111a"},
		{api.ElOne, 15, 0, "11111111111111baa"}, {api.ElOne, 16, 0, "11111111111111bab"}, {api.ElOne, 17, 0, "11111111111111bbaaa"},
		{api.ElOne, 65535, 0, "11111111111111" + "bbbbbbbbbbbbbbba" + "bbbbbbbbbbbaaba"},
	} {
		if s, code := bins.Bits(c.el, c.v, c.most); s != c.want || code != api.OK {
			t.Errorf("P6.1: %v: %q, %d", c, s, code)
		}
	}
}

// P6.1: each element, and numbers that are none, at the ends of each kind.
func TestEndsOfKinds(t *testing.T) {
	els := []int{math.MinInt, -256, -1, 20, 21, 32, 256, math.MaxInt}
	for el := range api.ElEnd + 1 {
		els = append(els, el)
	}
	values := []int{math.MinInt, math.MinInt32, -65536, -32769, -32768, -32767, -32766, -2, -1, 0, 1, 2, 3, 8, 9, 10, 13, 14, 15, 61, 62, 63, 64, 65,
		32766, 32767, 32768, 65534, 65535, 65536, 65537, math.MaxInt32, math.MaxInt}
	for _, el := range els {
		for _, v := range values {
			for _, most := range []int{math.MinInt, -1, 0, 1, 2, 3, 15, 62, 63, 64, 65, 32767, 65535, math.MaxInt} {
				told(t, el, v, most)
			}
		}
	}
}

// P6.1: the numbers of elements, each of its kind.
func TestKinds(t *testing.T) {
	for el := range api.ElEnd + 1 {
		two, _ := bins.Bits(el, 2, 63)
		less, _ := bins.Bits(el, -2, 63)
		far, _ := bins.Bits(el, 40000, 63)
		want := map[byte][3]string{'f': {"", "", ""}, 's': {"110", "", ""}, '+': {"110a", "110b", ""}, 'g': {"110", "", onesOf(40000, 14, 0)}}[kindOf(el)]
		if [3]string{two, less, far} != want {
			t.Errorf("P6.1: %d: %q, %q, %q", el, two, less, far)
		}
	}
	if n := len(flags) + len(shorts) + len(signeds) + len(greats); n != 20 {
		t.Fatal(n)
	}
}

// P6.1: every value of every element; of short ones with every greatest number.
func TestEveryValue(t *testing.T) {
	for _, el := range flags {
		for v := -2; v < 4; v++ {
			told(t, el, v, 0)
		}
	}
	for _, el := range shorts {
		for most := -3; most < 70; most++ {
			for v := -3; v < 70; v++ {
				told(t, el, v, most)
			}
		}
	}
	for _, el := range slices.Concat(signeds, greats) {
		for v := -40000; v < 70000; v++ {
			told(t, el, v, 0)
		}
	}
}

// P6.1: a short element's greatest number has no nought, those below have one.
func TestShortOnes(t *testing.T) {
	for _, el := range shorts {
		for most := 1; most <= 63; most++ {
			for v := range most + 1 {
				s, code := bins.Bits(el, v, most)
				ones, noughts := strings.Count(s, "1"), strings.Count(s, "0")
				if code != api.OK || ones != v || len(s) != min(v+1, most) || noughts != len(s)-v {
					t.Fatalf("P6.1: %d, %d of %d: %q, %d", el, v, most, s, code)
				}
			}
		}
	}
}

// P6.1: no element's bins are the beginning of another value's.
func TestNoneBeginsAnother(t *testing.T) {
	for _, c := range []struct{ el, least, most int }{{api.ElMvdX, -32767, 32767}, {api.ElOne, 0, 65535}, {api.ElLuma, 0, 63}, {api.ElSig, 0, 1}} {
		var all []string
		for v := c.least; v <= c.most; v++ {
			s, _ := bins.Bits(c.el, v, 63)
			all = append(all, s)
		}
		slices.Sort(all)
		for i, s := range all[1:] {
			if strings.HasPrefix(s, all[i]) {
				t.Fatalf("P6.1: %d: %q, %q", c.el, all[i], s)
			}
		}
	}
}
