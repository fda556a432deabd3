package bins_test

import (
	"math"
	"slices"
	"strings"
	"testing"

	"zoetrope/api"
	"zoetrope/bins"
	"zoetrope/engine"
)

// opened: two Decoders of the same bytes and states, if there may be any.
func opened(s string, states []int) (*engine.Decoder, *engine.Decoder) {
	d, _ := engine.NewDecoder(s, states)
	m, _ := engine.NewDecoder(s, states)
	return d, m
}

// get holds Get against the model, whose Decoder stands where d stands. It
// tells the error, the bins that were read and how many bits were left behind
// them.
func get(t *testing.T, s string, d, m *engine.Decoder, el, inc, most int) (api.Errno, string, int) {
	t.Helper()
	kept := *m
	want, wantCode, text := read(m, el, inc, most)
	left := 8*len(s) - m.At()
	if wantCode != api.OK {
		*m = kept
	}
	if v, code := bins.Get(d, el, inc, most); v != want || code != wantCode {
		t.Fatalf("P6.2: %x: %d, %d, %d: %d, %d, want %d, %d", s, el, inc, most, v, code, want, wantCode)
	}
	sameDecoder(t, "P6.2", d, m)
	return wantCode, text, left
}

// P6.2: any bytes, and any elements asked of them, up to their end and there.
func TestGetOfAnyBytes(t *testing.T) {
	c := chance{11}
	ends, forms := 0, 0
	for range 3000 {
		s := c.Text(2 + c.Below(40))
		d, m := opened(s, bins.Init(c.Below(52)))
		for left := 200; d != nil && left > 0; left-- {
			x := c.element()
			switch code, _, _ := get(t, s, d, m, x.el, x.inc, x.most); code {
			case api.ErrBinsEnd:
				ends++
				left = min(left, 5)
			case api.ErrBinsForm:
				forms++
				left = min(left, 5)
			}
		}
	}
	if ends < 100 {
		t.Errorf("%d ran out, %d were none", ends, forms)
	}
}

// laid: bytes of a text of bins of an element, behind some bins by bypass.
func laid(t *testing.T, ahead int, el, inc int, text string, states []int) string {
	t.Helper()
	e := engine.NewEncoder(states)
	for i := range ahead {
		e.Bypass(i % 2)
	}
	if code := write(e, el, inc, text); code != api.OK {
		t.Fatalf("%d", code)
	}
	e.Terminate(1)
	return e.Bytes()
}

// cuts asks an element of bytes that end anywhere: behind any byte, and, by
// what is read ahead, at any bit. It tells how often each error came, and how
// often ErrBinsForm came with no bit left.
func cuts(t *testing.T, el, inc, most int, text string) (ends int, forms int, last int) {
	t.Helper()
	states := bins.Init(20)
	for ahead := range 9 {
		s := laid(t, ahead, el, inc, text, states)
		for n := 2; n <= len(s); n++ {
			d, m := opened(s[:n], states)
			for range ahead {
				d.Bypass()
				m.Bypass()
			}
			code, got, left := get(t, s[:n], d, m, el, inc, most)
			if !strings.HasPrefix(text, got) {
				t.Fatalf("%q: %q", text, got)
			}
			switch {
			case code == api.ErrBinsEnd:
				ends++
			case code == api.ErrBinsForm && left == 0:
				last++
				forms++
			case code == api.ErrBinsForm:
				forms++
			}
			get(t, s[:n], d, m, el, inc, most)
		}
	}
	return ends, forms, last
}

// P6.2: bytes that end anywhere within an element.
func TestBytesEndAnywhere(t *testing.T) {
	for el := range api.ElEnd + 1 {
		for _, x := range ends(el) {
			for _, inc := range []int{0, 5, 7} {
				ends, forms, _ := cuts(t, el, inc, x.most, binsOf(el, x.v, x.most))
				if forms > 0 || ends == 0 && len(binsOf(el, x.v, x.most)) > 15 {
					t.Errorf("P6.2: %v: %d ran out, %d were none", x, ends, forms)
				}
			}
		}
	}
}

// tooLong: texts of bins that are no element's, for they are above its limit.
func tooLong(el int) []string {
	if el == api.ElOne {
		ones := strings.Repeat("1", 14)
		return []string{
			ones + strings.Repeat("b", 15) + "a" + digits(32755, 15),
			ones + strings.Repeat("b", 15) + "a" + digits(32767, 15),
			ones + strings.Repeat("b", 16) + "a" + digits(0, 16),
			ones + strings.Repeat("b", 16) + "a" + digits(65535, 16),
			ones + strings.Repeat("b", 17),
			ones + strings.Repeat("b", 18) + "a",
		}
	}
	ones := strings.Repeat("1", 9)
	return []string{
		ones + strings.Repeat("b", 11) + "a" + digits(16383, 14) + "a",
		ones + strings.Repeat("b", 11) + "a" + digits(16383, 14) + "b",
		ones + strings.Repeat("b", 12) + "a" + digits(0, 15) + "a",
		ones + strings.Repeat("b", 13) + "a" + digits(0, 16) + "b",
		ones + strings.Repeat("b", 13) + "a" + digits(65535, 16) + "b",
		ones + strings.Repeat("b", 14),
		ones + strings.Repeat("b", 60),
	}
}

// P6.2: values above their limits, and tails whose k comes to 17: which of two
// errors is told hangs on where the bits end. A limit is looked at as soon as
// all digits are read, without a bit for the sign; k as soon as it is 17.
func TestTooLong(t *testing.T) {
	for _, el := range slices.Concat(signeds, greats) {
		for _, text := range tooLong(el) {
			ends, forms, last := cuts(t, el, 0, 0, text)
			if ends == 0 || forms == 0 || last == 0 {
				t.Errorf("P6.2: %d, %q: %d ran out, %d were none, %d at the end", el, text, ends, forms, last)
			}
		}
	}
}

// P6.2: the greatest values are none of these.
func TestGreatestAreNotTooLong(t *testing.T) {
	states := bins.Init(40)
	for _, x := range []element{{api.ElMvdX, 0, 32767, 0}, {api.ElMvdY, 2, -32767, 0}, {api.ElQp, 7, 32767, 0}, {api.ElOne, 0, 65535, 0}, {api.ElOne, 3, 65534, 0}} {
		d, _ := engine.NewDecoder(laid(t, 3, x.el, x.inc, binsOf(x.el, x.v, x.most), states), states)
		for range 3 {
			d.Bypass()
		}
		if v, code := bins.Get(d, x.el, x.inc, x.most); v != x.v || code != api.OK {
			t.Errorf("P6.2: %v: %d, %d", x, v, code)
		}
		if b, code := d.Terminate(); b != 1 || code != api.OK {
			t.Errorf("P6.2: %v: %d, %d", x, b, code)
		}
	}
}

// wrongGet: el, inc or most that are none; which values there are is not asked.
func wrongGet() [][3]int {
	return [][3]int{
		{-1, 0, 1}, {20, 0, 1}, {math.MinInt, 0, 1}, {math.MaxInt, 0, 1},
		{api.ElSkip, -1, 0}, {api.ElSkip, 8, 0}, {api.ElMvdX, -1, 0}, {api.ElOne, 8, 0}, {api.ElQp, math.MinInt, 0}, {api.ElLuma, math.MaxInt, 3},
		{api.ElType, 0, 0}, {api.ElType, 0, -1}, {api.ElType, 0, 64}, {api.ElCbp, 0, math.MinInt}, {api.ElCbp, 0, math.MaxInt}, {api.ElRef, 8, 0},
	}
}

// P6.2: what is none is told, and nothing is read; also where bits have run
// out, or behind an end (R6).
func TestWrongGets(t *testing.T) {
	short := "\x12\x34"
	open, _ := opened(short, bins.Init(9))
	for range 7 {
		open.Bypass()
	}
	ended, _ := opened("\xfe\x80", bins.Init(9))
	ended.Terminate()
	for _, d := range []*engine.Decoder{open, ended} {
		for _, c := range wrongGet() {
			at, states := d.At(), d.States()
			if v, code := bins.Get(d, c[0], c[1], c[2]); v != 0 || code != api.ErrBinsForm {
				t.Errorf("P6.2: %v: %d, %d", c, v, code)
			}
			if d.At() != at || !slices.Equal(d.States(), states) {
				t.Errorf("R5: %v", c)
			}
		}
	}
}

// P6.2: behind an end there are no elements.
func TestGetBehindAnEnd(t *testing.T) {
	d, m := opened("\xfe\x80 and more than that", bins.Init(9))
	d.Terminate()
	m.Terminate()
	for el := range api.ElEnd + 1 {
		for inc := range 8 {
			if code, _, _ := get(t, "", d, m, el, inc, 5); code != api.ErrBinsEnd {
				t.Errorf("P6.2: %d: %d", el, code)
			}
		}
	}
}

// P6.2, R6: no Decoder is told ahead of all else.
func TestGetOfNil(t *testing.T) {
	for _, c := range append(wrongGet(), [3]int{api.ElSkip, 0, 0}, [3]int{api.ElType, 7, 63}, [3]int{api.ElQp, 0, 0}, [3]int{api.ElOne, 0, 0}) {
		if v, code := bins.Get(nil, c[0], c[1], c[2]); v != 0 || code != api.ErrNil {
			t.Errorf("R3: %v: %d, %d", c, v, code)
		}
	}
}

// P6.2: most is looked at of short ones only.
func TestMostOfOthers(t *testing.T) {
	states := bins.Init(33)
	for _, most := range []int{math.MinInt, -1, 0, 1, 63, 64, math.MaxInt} {
		for _, x := range []element{{api.ElSkip, 1, 1, most}, {api.ElMvdX, 0, -700, most}, {api.ElOne, 2, 700, most}} {
			e := engine.NewEncoder(states)
			code := bins.Put(e, x.el, x.inc, x.v, x.most)
			e.Terminate(1)
			d, _ := engine.NewDecoder(e.Bytes(), states)
			if v, got := bins.Get(d, x.el, x.inc, x.most); v != x.v || code != api.OK || got != api.OK {
				t.Errorf("P6.2: %v: %d: %d, %d", x, code, v, got)
			}
		}
	}
}

// P6.2, R5: a Decoder of too few contexts stands as it stood ahead of the
// element.
func TestGetOfTooFewContexts(t *testing.T) {
	c := chance{12}
	missing := 0
	for range 1000 {
		s, states := c.Text(12), c.Numbers(c.Below(25), 128)
		d, m := opened(s, states)
		for range 30 {
			if d == nil {
				break
			}
			if code, text, _ := get(t, s, d, m, c.Below(3), c.Below(8), 1+c.Below(20)); code == api.ErrBinsEnd && text != "" {
				missing++
			}
		}
	}
	if missing < 100 {
		t.Errorf("%d", missing)
	}
}

// R1: a Decoder that none made.
func TestGetOfBareDecoder(t *testing.T) {
	for el := range api.ElEnd + 1 {
		d := new(engine.Decoder)
		if v, code := bins.Get(d, el, 0, 1); v != 0 || code != api.ErrBinsEnd {
			t.Errorf("R1: %d: %d, %d", el, v, code)
		}
	}
}
