package levels_test

import (
	"slices"
	"sync"
	"testing"

	"zoetrope/api"
	"zoetrope/bits"
	"zoetrope/dice"
	"zoetrope/digits"
	"zoetrope/levels"
)

// back tells whether blocks, written one behind the other, are read as they were.
func back(all [][]int) bool {
	w := bits.New()
	for _, cs := range all {
		if levels.Put(w, cs) != api.OK {
			return false
		}
	}
	end := w.Len()
	w.Trail()
	r := bits.Open(w.Bytes())
	for _, cs := range all {
		if got, code := levels.Get(r, len(cs)); !slices.Equal(got, cs) || code != api.OK {
			return false
		}
	}
	return r.At() == end && !r.More() && r.Trail() == api.OK
}

// blocks: n of them.
func (c *chance) blocks(n int) [][]int {
	out := make([][]int, n)
	for i := range out {
		out[i] = c.block(c.size())
	}
	return out
}

// P7.2: rows of any blocks.
func TestRowsBack(t *testing.T) {
	c := chance{21}
	for range 2000 {
		if all := c.blocks(c.Below(30)); !back(all) {
			t.Fatalf("P7.2: %v", all)
		}
	}
}

// P7.2: every level, as the last one and behind three ones.
func TestLevelsBack(t *testing.T) {
	var all [][]int
	for x := -32767; x <= 32767; x++ {
		all = append(all, []int{0, x, 0, 0}, []int{x, 1, -1, 1})
	}
	if !back(all) {
		t.Error("P7.2")
	}
}

// P7.2: as many blocks as a stream may hold, and more.
func TestManyBack(t *testing.T) {
	c := chance{22}
	all := c.blocks(200000)
	if !back(all) {
		t.Error("P7.2")
	}
}

// P7.2: what is taken is written as it stood.
func TestTakenAsItStood(t *testing.T) {
	c := chance{23}
	taken := 0
	for range 60000 {
		row := c.row(8 * c.Below(20))
		r, w := bits.Open(digits.Packed(row)), bits.New()
		cs, code := levels.Get(r, c.size())
		if code != api.OK {
			continue
		}
		taken++
		if code = levels.Put(w, cs); code != api.OK {
			t.Fatalf("P7.2: %v of %s: %d", cs, row, code)
		}
		holds(t, "P7.2", w, row[:r.At()])
	}
	if taken < 5000 {
		t.Errorf("%d", taken)
	}
}

// R5: a block that is refused leaves a Reader that reads on.
func TestReaderGoesOn(t *testing.T) {
	row := digits.Ue(3, 1) + "1" + digits.Se(4, 0)
	r := bits.Open(digits.Packed(row))
	for range 3 {
		if cs, code := levels.Get(r, 16); len(cs) != 0 || code != api.ErrLevelsForm || r.At() != 0 {
			t.Fatalf("P7.1: %v, %d, at %d", cs, code, r.At())
		}
	}
	three, _ := r.Ue()
	one, _ := r.Ue()
	sign, _ := r.Bits(1)
	four, _ := r.Se()
	nought, code := r.Se()
	if three != 3 || one != 1 || sign != 1 || four != 4 || nought != 0 || code != api.OK {
		t.Errorf("R5: %d, %d, %d, %d, %d, %d", three, one, sign, four, nought, code)
	}
}

// R5: calls of several goroutines don't touch each other.
func TestSeveralAtOnce(t *testing.T) {
	var all sync.WaitGroup
	var good [8]bool
	for k := range good {
		all.Go(func() {
			c := chance{dice.Dice(k)}
			good[k] = back(c.blocks(2000))
			for range 2000 {
				row, size := c.row(100), c.size()
				got, code := levels.Get(bits.Open(digits.Packed(row)), size)
				want, _, wantCode := readBlock(digits.Spread(digits.Packed(row)), size)
				good[k] = good[k] && slices.Equal(got, want) && code == wantCode
			}
		})
	}
	all.Wait()
	for k, ok := range good {
		if !ok {
			t.Errorf("R5: %d", k)
		}
	}
}
