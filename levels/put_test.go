package levels_test

import (
	"math"
	"slices"
	"testing"

	"zoetrope/api"
	"zoetrope/bits"
	"zoetrope/levels"
)

// rows: blocks and their bits, written out by hand.
var rows = []struct {
	cs  []int
	row string
}{
	{[]int{0, 0, 0, 0}, "1"},
	{make([]int, 15), "1"},
	{make([]int, 16), "1"},
	// one of them: a greatest count of ones of 1 is a bit turned
	{[]int{1, 0, 0, 0}, "010" + "0" + "0" + "1"},
	{[]int{-1, 0, 0, 0}, "010" + "0" + "1" + "1"},
	{[]int{0, 0, -1, 0}, "010" + "0" + "1" + "011"},
	{[]int{2, 0, 0, 0}, "010" + "1" + "010" + "1"},
	{[]int{0, -2, 0, 0}, "010" + "1" + "011" + "010"},
	{[]int{0, 0, 0, 3}, "010" + "1" + "00100" + "00100"},
	// two: ones towards the first, noughts between them or not
	{[]int{1, -1, 0, 0}, "011" + "011" + "10" + "1"},
	{[]int{1, 0, 0, -1}, "011" + "011" + "10" + "011" + "011"},
	{[]int{0, 1, 0, 1}, "011" + "011" + "00" + "011" + "010"},
	{[]int{0, 0, 1, 1}, "011" + "011" + "00" + "011" + "1"},
	{[]int{1, 0, 2, 0}, "011" + "1" + "010" + "010" + "010" + "0"}, // a 1 that is no one of the row
	{[]int{2, 0, 1, 0}, "011" + "010" + "0" + "010" + "010" + "0"},
	{[]int{0, 2, 1, 0}, "011" + "010" + "0" + "010" + "010" + "1"},
	// three: one nought left, a bit turned
	{[]int{1, 1, 1, 0}, "00100" + "00100" + "000" + "1"},
	{[]int{0, 1, -1, 1}, "00100" + "00100" + "010" + "0" + "1" + "1"},
	{[]int{-1, 0, 1, 1}, "00100" + "00100" + "001" + "0" + "1" + "0"},
	{[]int{1, 1, 0, -1}, "00100" + "00100" + "100" + "0" + "0"},
	// four: no word of noughts; behind three ones a level is told whole
	{[]int{1, 1, 1, 1}, "00101" + "00100" + "000" + "010"},
	{[]int{-1, 1, 1, 1}, "00101" + "00100" + "000" + "011"},
	{[]int{2, 1, 1, 1}, "00101" + "00100" + "000" + "00100"},
	{[]int{2, 2, 1, 1}, "00101" + "011" + "00" + "010" + "00100"},
	{[]int{-3, 1, 2, -2}, "00101" + "1" + "011" + "00100" + "010" + "00111"},
	// noughts that run out ahead of the first
	{[]int{1, 1, 1, 0, 0, 1, 0, 0, 0, 0, 0, 0, 0, 0, 0}, "00101" + "00100" + "000" + "010" + "011" + "011"},
	{[]int{0, 0, 1, 1, 0, 0, 0, 0, 0, 0, 0, 0, 0, 0, 5, 0}, "00100" + "1" + "0001000" + "010" + "010" + "0001101" + "0001011" + "1"},
}

// P7.1: blocks that are written out.
func TestPutRows(t *testing.T) {
	for _, c := range rows {
		w := bits.New()
		if code := levels.Put(w, c.cs); code != api.OK {
			t.Errorf("P7.1: %v: %d", c.cs, code)
		}
		holds(t, "P7.1", w, c.row)
	}
}

// P7.1: every block of 4 of small levels.
func TestPutSmall(t *testing.T) {
	for k := range 7 * 7 * 7 * 7 {
		cs := []int{k%7 - 3, k/7%7 - 3, k/49%7 - 3, k/343 - 3}
		put(t, bits.New(), "", cs)
	}
}

// P7.1: coefficients that are not 0 at all places that there are.
func TestPutPlaces(t *testing.T) {
	c := chance{1}
	for _, size := range sizes {
		for places := range 1 << size {
			cs := make([]int, size)
			for i := range cs {
				if places>>i&1 == 1 {
					cs[i] = c.level()
				}
			}
			put(t, bits.New(), "", cs)
		}
	}
}

// P7.1: a Writer that holds bits already.
func TestPutBehind(t *testing.T) {
	c := chance{2}
	for range 500 {
		w, held := bits.New(), ""
		for range 20 {
			for range c.Below(8) {
				w.Bits(1, 1)
				held += "1"
			}
			held = put(t, w, held, c.block(c.size()))
		}
	}
}

// P7.1: the greatest levels at each place, and whether three ones are behind
// them or not.
func TestPutGreatest(t *testing.T) {
	for _, size := range sizes {
		for i := range size {
			for _, x := range []int{32767, -32767, 32766, -32766} {
				cs := make([]int, size)
				cs[i] = x
				put(t, bits.New(), "", cs)
				for k := i + 1; k < size; k++ {
					cs[k] = -1
				}
				put(t, bits.New(), "", cs)
				for k := range i {
					cs[k] = -x
				}
				put(t, bits.New(), "", cs)
			}
		}
	}
}

// refused holds a Put that tells an error, and leaves the Writer as it was.
func refused(t *testing.T, cs []int, want api.Errno) {
	t.Helper()
	w := bits.New()
	w.Bits(5, 3)
	if code := levels.Put(w, cs); code != want {
		t.Errorf("P7.1: Put of %v: %d, want %d", cs, code, want)
	}
	holds(t, "R5", w, "101")
	put(t, w, "101", []int{0, 2, 0, 1})
}

// beyond: levels that may not be.
var beyond = []int{32768, -32768, 65536, 1 << 30, math.MaxInt, math.MinInt}

// P7.1: a level that may not be, at each place.
func TestPutBeyond(t *testing.T) {
	for _, size := range sizes {
		for i := range size {
			for _, x := range beyond {
				cs := make([]int, size)
				cs[i] = x
				refused(t, cs, api.ErrLevelsRange)
				for k := range cs {
					if k != i {
						cs[k] = 1
					}
				}
				refused(t, cs, api.ErrLevelsRange)
			}
		}
	}
}

// P7.1, R6: what has no block's size, whatever its levels are.
func TestPutSizes(t *testing.T) {
	for n := range 40 {
		if slices.Contains(sizes, n) {
			put(t, bits.New(), "", make([]int, n))
			continue
		}
		refused(t, make([]int, n), api.ErrLevelsForm)
		for _, x := range append(beyond, 1) {
			refused(t, slices.Repeat([]int{x}, n), api.ErrLevelsForm)
		}
	}
	refused(t, nil, api.ErrLevelsForm)
	refused(t, make([]int, 1<<16), api.ErrLevelsForm)
}

// R3, R6: no Writer is told ahead of all else.
func TestPutOfNil(t *testing.T) {
	for _, cs := range [][]int{nil, {}, {1}, {1, 0, 0, 0}, {32768, 0, 0, 0}, make([]int, 15), make([]int, 16), {32768}} {
		if code := levels.Put(nil, cs); code != api.ErrNil {
			t.Errorf("R3: %v: %d", cs, code)
		}
	}
}

// R1: a Writer that none made.
func TestPutOfBareWriter(t *testing.T) {
	put(t, new(bits.Writer), "", []int{0, -7, 0, 1})
}

// R4: coefficients are not changed, nor is what lies beside them.
func TestPutChangesNothing(t *testing.T) {
	c := chance{3}
	for range 1000 {
		size := c.size()
		room := append(append([]int{77}, c.block(size)...), 88, 99)
		kept := slices.Clone(room)
		put(t, bits.New(), "", room[1:1+size])
		if !slices.Equal(room, kept) {
			t.Fatalf("R4: %v, were %v", room, kept)
		}
	}
}
