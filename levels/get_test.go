package levels_test

import (
	"math"
	"slices"
	"strings"
	"testing"

	"zoetrope/api"
	"zoetrope/bits"
	"zoetrope/digits"
	"zoetrope/levels"
)

// asksGet holds Get, of a Reader that has read some bits of s, against what is
// asked of it: beside an error the Reader is where it was, else it is used bits
// further on.
func asksGet(t *testing.T, s string, at int, size int, want []int, used int, code api.Errno) {
	t.Helper()
	r := opened(s, at)
	cs, got := levels.Get(r, size)
	if !slices.Equal(cs, want) || got != code || r.At() != at+used {
		t.Fatalf("P7.1: Get of %d of %.200s: %v, %d, at %d, want %v, %d, at %d",
			size, digits.Spread(s)[at:], cs, got, r.At(), want, code, at+used)
	}
	if code != api.OK && len(cs) != 0 {
		t.Fatalf("R2: %v beside %d", cs, code)
	}
	x, end := r.Bits(1)
	if l := (&digits.Left{Row: digits.Spread(s)[at+used:]}); x != l.Plain(1) || end != l.Code {
		t.Fatalf("R5: behind Get of %d of %.200s: %d, %d", size, digits.Spread(s)[at:], x, end)
	}
}

// asksModel holds Get against the model. It tells the error.
func asksModel(t *testing.T, s string, at int, size int) api.Errno {
	t.Helper()
	want, used, code := readBlock(digits.Spread(s)[at:], size)
	asksGet(t, s, at, size, want, used, code)
	return code
}

// P7.1: blocks that are written out, with anything behind them.
func TestGetRows(t *testing.T) {
	for _, c := range rows {
		for at := range 9 {
			ahead := strings.Repeat("1", at)
			for _, behind := range []string{"", "1", "0", digits.TooLong, strings.Repeat("0", 99)} {
				asksGet(t, digits.Packed(ahead+c.row+behind), at, len(c.cs), c.cs, len(c.row), api.OK)
			}
		}
	}
}

// P7.1: all there is of 17 bits.
func TestGetSmall(t *testing.T) {
	seen := map[api.Errno]int{}
	for x := range 1 << 17 {
		for _, size := range []int{4, 15} {
			seen[asksModel(t, digits.Packed(digits.Plain(x, 17)+"1111111"), 0, size)]++
		}
	}
	if seen[api.OK] < 100 || seen[api.ErrLevelsForm] < 100 || seen[api.ErrLevelsEnd] < 100 {
		t.Errorf("%v", seen)
	}
}

// P7.1: any bits, from any place.
func TestGetAnything(t *testing.T) {
	c := chance{11}
	seen := map[api.Errno]int{}
	for range 60000 {
		row := c.row(c.Below(200))
		at := min(c.Below(9), len(row))
		seen[asksModel(t, digits.Packed(row), at, c.size())]++
	}
	for _, code := range []api.Errno{api.OK, api.ErrLevelsEnd, api.ErrLevelsForm, api.ErrLevelsRange} {
		if seen[code] < 20 {
			t.Errorf("%v", seen)
		}
	}
}

// P7.1: blocks that end anywhere. The last byte's noughts are bits too, so each
// cut is made where a byte ends.
func TestGetCut(t *testing.T) {
	c := chance{12}
	for range 1500 {
		cs := c.block(c.size())
		row := rowOf(cs)
		for n := range len(row) {
			at := (8 - n%8) % 8
			asksGet(t, digits.Packed(strings.Repeat("1", at)+row[:n]), at, len(cs), nil, 0, api.ErrLevelsEnd)
		}
	}
}

// asksFault holds a row that is no block's, at the end or with anything behind:
// it is told as soon as it is read.
func asksFault(t *testing.T, row string, size int, code api.Errno) {
	t.Helper()
	at := (8 - len(row)%8) % 8
	for _, behind := range []string{"", strings.Repeat("1", 64), strings.Repeat("0", 64)} {
		asksGet(t, digits.Packed(strings.Repeat("1", at)+row+behind), at, size, nil, 0, code)
	}
}

// P7.1: codes that are none.
func TestGetNoCodes(t *testing.T) {
	noughts := strings.Repeat("0", 31)
	for _, c := range []struct {
		row  string
		size int
	}{
		{"", 4}, {"", 15}, {"", 16}, // how many
		{digits.Ue(2), 4}, {digits.Ue(9), 15}, // ones
		{digits.Ue(1) + "1", 4},                               // the first of the others
		{digits.Ue(2, 1) + "0", 4},                            // the same behind a one
		{digits.Ue(4, 3) + "000", 4},                          // behind three
		{digits.Ue(4, 0) + digits.Se(1, 2), 4},                // a level behind it
		{digits.Ue(1) + "00", 4}, {digits.Ue(2, 2) + "00", 4}, // noughts
		{digits.Ue(2, 2) + "00" + digits.Ue(2), 4}, // a run
		{digits.Ue(3, 3) + "000" + digits.Ue(9, 2), 15},
	} {
		asksFault(t, c.row+noughts, c.size, api.ErrLevelsForm)
		almost := c.row + noughts[:30] // the beginning of a code
		at := (8 - len(almost)%8) % 8
		asksGet(t, digits.Packed(strings.Repeat("1", at)+almost), at, c.size, nil, 0, api.ErrLevelsEnd)
	}
}

// P7.1: numbers above their greatest.
func TestGetTooMany(t *testing.T) {
	for _, size := range sizes {
		for _, x := range []int{1, 2, 100, digits.GreatestUe - 16} {
			asksFault(t, digits.Ue(size+x), size, api.ErrLevelsForm)
		}
		for many := 2; many <= size; many++ { // of one it is a bit
			asksFault(t, digits.Ue(many, min(3, many)+1), size, api.ErrLevelsForm)
			asksFault(t, digits.Ue(many, 4), size, api.ErrLevelsForm)
		}
		for many := 1; many <= size-2; many++ {
			told := digits.Ue(many) + digits.Te(0, min(3, many)) + digits.Se(1) + digits.Se(slices.Repeat([]int{2}, many-1)...)
			asksFault(t, told+digits.Ue(size-many+1), size, api.ErrLevelsForm)
			if many == 1 {
				continue
			}
			for left := 2; left <= size-many; left++ {
				asksFault(t, told+digits.Ue(left, left+1), size, api.ErrLevelsForm)
				asksGet(t, digits.Packed(told+digits.Ue(left, left)), 0, size,
					slices.Concat(slices.Repeat([]int{2}, many-1), make([]int, left), []int{2}, make([]int, size-many-left)),
					len(told+digits.Ue(left, left)), api.OK)
			}
		}
	}
}

// P7.1: levels that come to 0, or to a 1 that would be told by its sign.
func TestGetNoLevels(t *testing.T) {
	nought := digits.Se(0)
	for _, size := range sizes {
		for many := 1; many <= size; many++ {
			for o := range min(3, many-1) + 1 {
				start := digits.Ue(many) + digits.Te(o, min(3, many)) + strings.Repeat("1", o)
				asksFault(t, start+nought, size, api.ErrLevelsForm)
				for k := 1; k < many-o; k++ {
					asksFault(t, start+digits.Se(slices.Repeat([]int{-1}, k)...)+nought, size, api.ErrLevelsForm)
				}
			}
		}
	}
}

// P7.1: levels that are too great are told where they stand: what is behind
// them is not read. The first of the others is one further than it is told.
func TestGetBeyond(t *testing.T) {
	for _, size := range sizes {
		for many := 1; many <= size; many++ {
			for o := range min(3, many-1) + 1 {
				start := digits.Ue(many) + digits.Te(o, min(3, many)) + strings.Repeat("1", o)
				for k := range many - o {
					ahead := start + digits.Se(slices.Repeat([]int{-5}, k)...)
					most := 32767
					if k == 0 && o < 3 {
						most = 32766
					}
					for _, x := range []int{most + 1, -most - 1, most + 2, 65536, digits.GreatestSe, -digits.GreatestSe} {
						asksFault(t, ahead+digits.Se(x), size, api.ErrLevelsRange)
					}
					for _, x := range []int{most, -most} {
						row := digits.Packed(ahead + digits.Se(x) + strings.Repeat("1", 20))
						if code := asksModel(t, row, 0, size); code != api.ErrLevelsForm && code != api.OK {
							t.Errorf("P7.1: %d of %d: %d", k, many, code)
						}
					}
				}
			}
		}
	}
}

// P7.1: sizes that no block has, told ahead of the reader's end.
func TestGetSizes(t *testing.T) {
	for _, size := range []int{math.MinInt, -16, -4, -1, 0, 1, 2, 3, 5, 6, 13, 14, 17, 18, 31, 32, 64, 256, math.MaxInt} {
		for _, s := range []string{"", "\xff", "\x00\x00\x00\x00\x00\x00"} {
			asksGet(t, s, 0, size, nil, 0, api.ErrLevelsForm)
		}
	}
	for _, size := range sizes {
		asksGet(t, "", 0, size, nil, 0, api.ErrLevelsEnd)
		asksGet(t, "\x80", 0, size, make([]int, size), 1, api.OK)
	}
}

// R3, R6: no Reader is told ahead of all else.
func TestGetOfNil(t *testing.T) {
	for _, size := range []int{math.MinInt, -1, 0, 3, 4, 15, 16, 17, math.MaxInt} {
		if cs, code := levels.Get(nil, size); len(cs) != 0 || code != api.ErrNil {
			t.Errorf("R3: %d: %v, %d", size, cs, code)
		}
	}
}

// R1: a Reader that none made has no bits.
func TestGetOfBareReader(t *testing.T) {
	for _, size := range sizes {
		if cs, code := levels.Get(new(bits.Reader), size); len(cs) != 0 || code != api.ErrLevelsEnd {
			t.Errorf("R1: %d: %v, %d", size, cs, code)
		}
	}
}

// R4: two answers share nothing, not even spare room.
func TestGetSharesNothing(t *testing.T) {
	for _, c := range rows {
		r := bits.Open(digits.Packed(c.row + c.row))
		one, _ := levels.Get(r, len(c.cs))
		for i := range one {
			one[i] = 99
		}
		one = append(one, 99)
		two, code := levels.Get(r, len(c.cs))
		if !slices.Equal(two, c.cs) || code != api.OK {
			t.Errorf("R4: %v: %v, %d", c.cs, two, code)
		}
		for i := range two {
			two[i] = 77
		}
		if slices.Contains(one, 77) {
			t.Errorf("R4: %v: %v", c.cs, one)
		}
	}
}
