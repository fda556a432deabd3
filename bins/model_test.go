package bins_test

import (
	"slices"
	"strconv"
	"strings"
	"testing"

	"zoetrope/api"
	"zoetrope/engine"
)

// The models follow the chapter's words: elements are texts of bins, and the
// engine is called bin by bin.

// The chapter's lists of elements.
var (
	flags   = []int{api.ElSkip, api.ElPred, api.ElCoded, api.ElSig, api.ElLast, api.ElMore, api.ElEnd}
	shorts  = []int{api.ElType, api.ElRem, api.ElWhole, api.ElChroma, api.ElShape, api.ElDir, api.ElRef, api.ElLuma, api.ElCbp}
	signeds = []int{api.ElMvdX, api.ElMvdY, api.ElQp}
	greats  = []int{api.ElOne}
)

// kindOf: 'f', 's', '+', 'g', or ' ' of what is no element.
func kindOf(el int) byte {
	for i, els := range [][]int{flags, shorts, signeds, greats} {
		if slices.Contains(els, el) {
			return "fs+g"[i]
		}
	}
	return ' '
}

// mayBe tells if v may be, by the ranges that the chapter names.
func mayBe(el, v, most int) bool {
	switch kindOf(el) {
	case 'f':
		return v == 0 || v == 1
	case 's':
		return most >= 1 && most <= 63 && v >= 0 && v <= most
	case '+':
		return v >= -32767 && v <= 32767
	case 'g':
		return v >= 0 && v <= 65535
	}
	return false
}

// digits of x: k of them, of the two letters.
func digits(x, k int) string {
	if k == 0 {
		return ""
	}
	s := strconv.FormatInt(int64(x), 2)
	return strings.NewReplacer("0", "a", "1", "b").Replace(strings.Repeat("0", k-len(s)) + s)
}

// tailOf x with k.
func tailOf(x, k int) string {
	if x >= 1<<k {
		return "b" + tailOf(x-1<<k, k+1)
	}
	return "a" + digits(x, k)
}

// onesOf: up to most of them, then a nought; at most its tail with k.
func onesOf(v, most, k int) string {
	if v < most {
		return strings.Repeat("1", v) + "0"
	}
	return strings.Repeat("1", most) + tailOf(v-most, k)
}

// binsOf: the text of an element that may be.
func binsOf(el, v, most int) string {
	switch kindOf(el) {
	case 'f':
		return strconv.Itoa(v)
	case 's':
		return strings.TrimSuffix(strings.Repeat("1", v)+"0", strings.Repeat("0", v/most))
	case 'g':
		return onesOf(v, 14, 0)
	}
	switch {
	case v > 0:
		return onesOf(v, 9, 3) + "a"
	case v < 0:
		return onesOf(-v, 9, 3) + "b"
	}
	return onesOf(0, 9, 3)
}

// write lays a text of bins on an Encoder, the i-th with a context by its place.
func write(e *engine.Encoder, el, inc int, text string) api.Errno {
	i := 0
	for _, letter := range text {
		code := api.OK
		switch letter {
		case 'a', 'b':
			code = e.Bypass(int(letter - 'a'))
		default:
			code = e.Bin(8*el+min(inc+i, 7), int(letter-'0'))
			i++
		}
		if code != api.OK {
			return code
		}
	}
	return api.OK
}

// reading gets an element from a Decoder, bin by bin; text is what was read.
type reading struct {
	d       *engine.Decoder
	el, inc int
	i       int
	text    string
	code    api.Errno
}

func (r *reading) next(byContext bool) byte {
	if r.code != api.OK {
		return 0
	}
	b, code, zero := 0, api.OK, byte('a')
	if byContext {
		b, code = r.d.Bin(8*r.el + min(r.inc+r.i, 7))
		r.i++
		zero = '0'
	} else {
		b, code = r.d.Bypass()
	}
	if code != api.OK {
		r.code = api.ErrBinsEnd
		return 0
	}
	r.text += string(zero + byte(b))
	return zero + byte(b)
}

func (r *reading) fails() int {
	if r.code == api.OK {
		r.code = api.ErrBinsForm
	}
	return 0
}

func (r *reading) ones(most int) int {
	n := 0
	for n < most && r.next(true) == '1' {
		n++
	}
	return n
}

func (r *reading) tail(k int) int {
	x := 0
	for r.next(false) == 'b' {
		x += 1 << k
		k++
		if k == 17 {
			return r.fails()
		}
	}
	low := 0
	for range k {
		low *= 2
		if r.next(false) == 'b' {
			low++
		}
	}
	return x + low
}

func (r *reading) long(most, k, limit int) int {
	x := r.ones(most)
	if x == most {
		x += r.tail(k)
	}
	if x > limit {
		return r.fails()
	}
	return x
}

func (r *reading) value(most int) int {
	switch kindOf(r.el) {
	case 'f':
		return r.ones(1)
	case 's':
		return r.ones(most)
	case 'g':
		return r.long(14, 0, 65535)
	}
	size := r.long(9, 3, 32767)
	if size > 0 && r.next(false) == 'b' {
		return -size
	}
	return size
}

// read: what Get is to answer, and the bins that were read; the Decoder stands
// behind them, also beside an error.
func read(d *engine.Decoder, el, inc, most int) (int, api.Errno, string) {
	if !mayBe(el, 0, most) || inc < 0 || inc > 7 {
		return 0, api.ErrBinsForm, ""
	}
	r := &reading{d: d, el: el, inc: inc}
	v := r.value(most)
	if r.code != api.OK {
		return 0, r.code, r.text
	}
	return v, api.OK, r.text
}

// sameEncoder holds an Encoder against another.
func sameEncoder(t *testing.T, what string, e, want *engine.Encoder) {
	t.Helper()
	if e.Bytes() != want.Bytes() || !slices.Equal(e.States(), want.States()) {
		t.Fatalf("%s: %x, %v, want %x, %v", what, e.Bytes(), e.States(), want.Bytes(), want.States())
	}
}

// sameDecoder holds a Decoder against another.
func sameDecoder(t *testing.T, what string, d, want *engine.Decoder) {
	t.Helper()
	if d.At() != want.At() || !slices.Equal(d.States(), want.States()) {
		t.Fatalf("%s: at %d, %v, want %d, %v", what, d.At(), d.States(), want.At(), want.States())
	}
}
