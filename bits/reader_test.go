package bits_test

import (
	"math"
	"strings"
	"testing"

	"zoetrope/api"
	"zoetrope/bits"
	"zoetrope/digits"
)

// holds asks what a call of a Reader answered, and where it stands behind it.
func holds(t *testing.T, what string, r *bits.Reader, x int, code api.Errno, wantX int, wantCode api.Errno, at int) {
	t.Helper()
	if x != wantX || code != wantCode || r.At() != at {
		t.Errorf("%s: %d, %d at %d, want %d, %d at %d", what, x, code, r.At(), wantX, wantCode, at)
	}
}

// P1.2: Bits reads from any place, with any n that is left, and no more.
func TestReadWidths(t *testing.T) {
	s := "\xa5\x0f\xff\x00\x81\x7e\xc3"
	row := digits.Spread(s)
	for at := range len(row) + 1 {
		for n := range 33 {
			r := ahead(s, at)
			x, code := r.Bits(n)
			want, size, wantCode := first(row[at:], func(l *digits.Left) int { return l.Plain(n) })
			holds(t, "P1.2: Bits", r, x, code, want, wantCode, at+size)
		}
	}
}

// P1.2, R6: an n that may not be is told ahead of the end.
func TestReadWrongWidths(t *testing.T) {
	for _, s := range []string{"", "\xff", "\xff\xff\xff\xff\xff"} {
		for _, n := range []int{-1, 33, 64, math.MinInt, math.MaxInt} {
			r := bits.Open(s)
			x, code := r.Bits(n)
			holds(t, "P1.2: Bits", r, x, code, 0, api.ErrBitsForm, 0)
		}
	}
	r := bits.Open("")
	x, code := r.Bits(0)
	holds(t, "P1.2: Bits 0 at the end", r, x, code, 0, api.OK, 0)
	x, code = r.Bits(1)
	holds(t, "P1.2: Bits 1 at the end", r, x, code, 0, api.ErrBitsEnd, 0)
}

// codeRows: noughts ahead of a first 1, ends within a code, from any place.
var codeRows = []struct {
	row  string
	x    int
	size int
	code api.Errno
}{
	{"", 0, 0, api.ErrBitsEnd},
	{"1", 0, 1, api.OK},
	{"010", 1, 3, api.OK},
	{"0110", 2, 3, api.OK},
	{"00100", 3, 5, api.OK},
	{"0", 0, 0, api.ErrBitsEnd},
	{"01", 0, 0, api.ErrBitsEnd},
	{"0011", 0, 0, api.ErrBitsEnd},
	{strings.Repeat("0", 30), 0, 0, api.ErrBitsEnd},
	{strings.Repeat("0", 31), 0, 0, api.ErrBitsForm},
	{strings.Repeat("0", 32), 0, 0, api.ErrBitsForm},
	{strings.Repeat("0", 99), 0, 0, api.ErrBitsForm},
	{strings.Repeat("0", 31) + "1", 0, 0, api.ErrBitsForm},
	{strings.Repeat("0", 31) + strings.Repeat("1", 40), 0, 0, api.ErrBitsForm},
	{strings.Repeat("0", 30) + "1", 0, 0, api.ErrBitsEnd},
	{strings.Repeat("0", 30) + strings.Repeat("1", 30), 0, 0, api.ErrBitsEnd},
	{strings.Repeat("0", 30) + strings.Repeat("1", 31), digits.GreatestUe, 61, api.OK},
	{strings.Repeat("0", 30) + "1" + strings.Repeat("0", 30), 1<<30 - 1, 61, api.OK},
	{strings.Repeat("0", 29) + strings.Repeat("1", 30), 1<<30 - 2, 59, api.OK},
	{strings.Repeat("0", 29) + strings.Repeat("1", 29), 0, 0, api.ErrBitsEnd},
}

// turned: Se's number of Ue's.
func turned(x int) int {
	if x%2 == 1 {
		return (x + 1) / 2
	}
	return -x / 2
}

// P1.2: Ue, Se and Te of rows that end a byte, behind 1 to 8 other bits.
func TestReadCodes(t *testing.T) {
	for i, c := range codeRows {
		at := 8 - len(c.row)%8
		s := digits.Packed(strings.Repeat("1", at) + c.row)
		what := "P1.2: row " + digits.Plain(i, 6)
		r := ahead(s, at)
		x, code := r.Ue()
		holds(t, what+" Ue", r, x, code, c.x, c.code, at+c.size)
		r = ahead(s, at)
		x, code = r.Se()
		holds(t, what+" Se", r, x, code, turned(c.x), c.code, at+c.size)
		r = ahead(s, at)
		x, code = r.Te(math.MaxInt)
		holds(t, what+" Te", r, x, code, c.x, c.code, at+c.size)
	}
}

// P1.2: greatest and least numbers of Se.
func TestReadGreatestSe(t *testing.T) {
	for _, want := range []int{digits.GreatestSe, -digits.GreatestSe, digits.GreatestSe - 1, 1 - digits.GreatestSe, 0, 1, -1} {
		r := bits.Open(digits.Packed(digits.Se(want)))
		x, code := r.Se()
		holds(t, "P1.2: Se", r, x, code, want, api.OK, len(digits.Se(want)))
	}
}

// P1.2: Te: a bit turned of 1, else Ue of no more than the greatest.
func TestReadTe(t *testing.T) {
	for i, c := range []struct {
		s    string
		most int
		x    int
		code api.Errno
		at   int
	}{
		{"\x80", 1, 0, api.OK, 1},
		{"\x00", 1, 1, api.OK, 1},
		{"", 1, 0, api.ErrBitsEnd, 0},
		{"", 2, 0, api.ErrBitsEnd, 0},
		{"\x80", 0, 0, api.ErrBitsForm, 0},
		{"\x80", -1, 0, api.ErrBitsForm, 0},
		{"", 0, 0, api.ErrBitsForm, 0},
		{"\x80", math.MinInt, 0, api.ErrBitsForm, 0},
		{"\x40", 2, 1, api.OK, 3},
		{"\x60", 2, 2, api.OK, 3},
		{"\x20", 2, 0, api.ErrBitsForm, 0},
		{"\x20", 3, 3, api.OK, 5},
		{"\x20", 4, 3, api.OK, 5},
		{"\x28", 3, 0, api.ErrBitsForm, 0},
		{"\x00\x00\x00\x00", 5, 0, api.ErrBitsForm, 0},
		{"\x00\x00\x00", 5, 0, api.ErrBitsEnd, 0},
		{"\x00\x00\x00\x03\xff\xff\xff\xf8", digits.GreatestUe, digits.GreatestUe, api.OK, 61},
		{"\x00\x00\x00\x03\xff\xff\xff\xf8", digits.GreatestUe - 1, 0, api.ErrBitsForm, 0},
		{"\x00\x00\x00\x03\xff\xff\xff\xf8", math.MaxInt, digits.GreatestUe, api.OK, 61},
	} {
		r := bits.Open(c.s)
		x, code := r.Te(c.most)
		holds(t, "P1.2: row "+digits.Plain(i, 5), r, x, code, c.x, c.code, c.at)
	}
}

// wantMore: anything but a last 1 and noughts, in the model's words.
func wantMore(row string) bool {
	return strings.Contains(row, "1") && strings.TrimRight(row, "0") != "1"
}

// wantTrail: just a 1 and fewer than 8 noughts.
func wantTrail(row string) api.Errno {
	if len(row) < 1 || len(row) > 8 || row != "1"+strings.Repeat("0", len(row)-1) {
		return api.ErrBitsForm
	}
	return api.OK
}

// asksEnd holds More and Trail from a place of s against the model.
func asksEnd(t *testing.T, s string, at int) {
	t.Helper()
	row := digits.Spread(s)[at:]
	r := ahead(s, at)
	if r.More() != wantMore(row) || r.At() != at {
		t.Errorf("P1.2: More of %q from %d: %v", s, at, r.More())
	}
	code := r.Trail()
	if code == api.OK {
		at = 8 * len(s)
	}
	if code != wantTrail(row) || r.At() != at {
		t.Errorf("P1.2: Trail of %q: %d at %d", s, code, r.At())
	}
	if code == api.OK && (r.More() || r.Trail() != api.ErrBitsForm) {
		t.Errorf("P1.2: behind Trail of %q", s)
	}
}

// P1.2: More and Trail, with and without a last 1, from every place.
func TestReadEnds(t *testing.T) {
	for _, s := range []string{"", "\x00", "\x80", "\x01", "\xc0", "\x40", "\xff", "\x80\x00", "\x01\x80", "\x01\x00", "\x00\x80", "\x00\x00\x01", "\x80\x00\x00\x01\x00\x00\x00", "\xff\xff\xff\xff\xff\xff", "\x00\x00\x00\x00\x00"} {
		for at := range 8*len(s) + 1 {
			asksEnd(t, s, at)
		}
	}
	for b := range 256 {
		for at := range 9 {
			asksEnd(t, string([]byte{byte(b)}), at)
		}
	}
}

// P1.2: any reads of any bytes, held against the model.
func TestReadAnything(t *testing.T) {
	c := chance{3}
	for range 20000 {
		s := c.text(12)
		row, r, at := digits.Spread(s), bits.Open(s), 0
		for range 6 {
			x, size, code := 0, 0, api.OK
			got, gotCode := 0, api.OK
			switch c.Below(4) {
			case 0:
				n := c.Below(33)
				got, gotCode = r.Bits(n)
				x, size, code = first(row[at:], func(l *digits.Left) int { return l.Plain(n) })
			case 1:
				x, size, code = first(row[at:], (*digits.Left).Ue)
				got, gotCode = r.Ue()
			case 2:
				x, size, code = first(row[at:], (*digits.Left).Se)
				got, gotCode = r.Se()
			default:
				most := 1 + c.Below(300)
				x, size, code = first(row[at:], func(l *digits.Left) int { return l.Te(most) })
				got, gotCode = r.Te(most)
			}
			at += size
			holds(t, "P1.2: anything", r, got, gotCode, x, code, at)
		}
		asksEnd(t, s, at)
	}
}

// R3: a nil Reader, whatever it is handed.
func TestNilReader(t *testing.T) {
	var r *bits.Reader
	for _, n := range []int{-1, 0, 1, 2, 32, 33} {
		x, code := r.Bits(n)
		holds(t, "R3: Bits", r, x, code, 0, api.ErrNil, 0)
		x, code = r.Te(n)
		holds(t, "R3: Te", r, x, code, 0, api.ErrNil, 0)
	}
	x, code := r.Ue()
	holds(t, "R3: Ue", r, x, code, 0, api.ErrNil, 0)
	x, code = r.Se()
	holds(t, "R3: Se", r, x, code, 0, api.ErrNil, 0)
	if r.More() || r.Trail() != api.ErrNil || r.At() != 0 {
		t.Error("R3")
	}
}

// R1: a Reader that Open did not make is one of no bits.
func TestBareReader(t *testing.T) {
	var r bits.Reader
	x, code := r.Ue()
	holds(t, "R1", &r, x, code, 0, api.ErrBitsEnd, 0)
	x, code = r.Bits(0)
	holds(t, "R1", &r, x, code, 0, api.OK, 0)
	if r.More() || r.Trail() != api.ErrBitsForm {
		t.Error("R1")
	}
}

// Size: More is asked at each bit of a long text of noughts behind a few ones.
func TestMoreOfLongNoughts(t *testing.T) {
	s := "\xff" + strings.Repeat("\x00", api.MaxBytes-1)
	r := bits.Open(s)
	for at := range 8 * len(s) {
		if r.More() != (at < 7) {
			t.Fatalf("P1.2: More at %d", at)
		}
		r.Bits(1)
	}
}
