package levels_test

import (
	"testing"

	"zoetrope/api"
	"zoetrope/bits"
	"zoetrope/digits"
	"zoetrope/levels"
)

// The model writes and reads blocks as a text of '0' and '1', by the words of
// chapters 1 and 7 alone.

// sizes of blocks.
var sizes = []int{4, 15, 16}

// full: the places of coefficients that are not 0, from the last one on.
func full(cs []int) []int {
	var places []int
	for i := len(cs) - 1; i >= 0; i-- {
		if cs[i] != 0 {
			places = append(places, i)
		}
	}
	return places
}

// signs: how many levels in a row are told by a bit each.
func signs(cs []int, places []int) int {
	o := 0
	for o < 3 && o < len(places) && cs[places[o]]*cs[places[o]] == 1 {
		o++
	}
	return o
}

// nearer: one nearer to 0.
func nearer(x int) int {
	if x > 0 {
		return x - 1
	}
	return x + 1
}

// rowOf: the bits of a block.
func rowOf(cs []int) string {
	places := full(cs)
	t := len(places)
	row := digits.Te(t, len(cs))
	if t == 0 {
		return row
	}
	o := signs(cs, places)
	row += digits.Te(o, min(3, t))
	for i, place := range places {
		switch {
		case i < o:
			row += digits.Flag(cs[place] < 0)
		case i == o && o < 3:
			row += digits.Se(nearer(cs[place]))
		default:
			row += digits.Se(cs[place])
		}
	}
	noughts := places[0] + 1 - t
	if t < len(cs) {
		row += digits.Te(noughts, len(cs)-t)
	}
	for i := 0; i < t-1 && noughts > 0; i++ {
		ahead := places[i] - places[i+1] - 1
		row += digits.Te(ahead, noughts)
		noughts -= ahead
	}
	return row
}

// readLevels: the levels of a block, from the last one on; what is wrong with
// the first that is none.
func readLevels(l *digits.Left, t int) (all []int, code api.Errno) {
	o := l.Te(min(3, t))
	for i := range t {
		if i < o {
			all = append(all, 1-2*l.Plain(1))
			continue
		}
		x := l.Se()
		if l.Code != api.OK {
			return nil, l.Code
		}
		if i == o && o < 3 && x > 0 {
			x++
		} else if i == o && o < 3 && x < 0 {
			x--
		}
		if x == 0 {
			return nil, api.ErrLevelsForm
		}
		if x > 32767 || x < -32767 {
			return nil, api.ErrLevelsRange
		}
		all = append(all, x)
	}
	return all, l.Code
}

// readBlock: a block of a size at the start of row, and how many bits it takes.
func readBlock(row string, size int) ([]int, int, api.Errno) {
	l := &digits.Left{Row: row}
	cs := make([]int, size)
	t := l.Te(size)
	if t > 0 {
		all, code := readLevels(l, t)
		if code != api.OK {
			return nil, 0, ours(code)
		}
		noughts := 0
		if t < size {
			noughts = l.Te(size - t)
		}
		place := t + noughts
		for i, x := range all {
			place--
			if l.Code != api.OK || place < 0 {
				break
			}
			cs[place] = x
			if i < t-1 && noughts > 0 {
				ahead := l.Te(noughts)
				noughts -= ahead
				place -= ahead
			}
		}
	}
	if l.Code != api.OK {
		return nil, 0, ours(l.Code)
	}
	return cs, len(row) - len(l.Row), api.OK
}

// ours: layer 1's errors as this layer tells them.
func ours(code api.Errno) api.Errno {
	switch code {
	case api.ErrBitsEnd:
		return api.ErrLevelsEnd
	case api.ErrBitsForm:
		return api.ErrLevelsForm
	}
	return code
}

// holds asks what a Writer holds.
func holds(t *testing.T, what string, w *bits.Writer, row string) {
	t.Helper()
	if w.Len() != len(row) || w.Bytes() != digits.Packed(row) {
		t.Fatalf("%s: %s, want %s", what, digits.Spread(w.Bytes()), row)
	}
}

// put holds Put against the model: a Writer that holds held gets the block's
// bits behind it. It tells what is held then.
func put(t *testing.T, w *bits.Writer, held string, cs []int) string {
	t.Helper()
	if code := levels.Put(w, cs); code != api.OK {
		t.Fatalf("P7.1: Put of %v: %d", cs, code)
	}
	holds(t, "P7.1: Put", w, held+rowOf(cs))
	return held + rowOf(cs)
}

// opened: a Reader of a row that has read some bits.
func opened(s string, at int) *bits.Reader {
	r := bits.Open(s)
	for range at {
		r.Bits(1)
	}
	return r
}
