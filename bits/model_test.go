package bits_test

import (
	"zoetrope/api"
	"zoetrope/bits"
	"zoetrope/dice"
	"zoetrope/digits"
)

// The model is package digits: bits as a text of '0' and '1', by the chapter's
// words alone.

// first: the number at the start of row, how many bits it takes, and what is
// wrong with it.
func first(row string, read func(l *digits.Left) int) (x int, size int, code api.Errno) {
	l := &digits.Left{Row: row}
	if x = read(l); l.Code != api.OK {
		return 0, 0, l.Code
	}
	return x, len(row) - len(l.Row), api.OK
}

// chance is a row of numbers, and what is made of them.
type chance struct{ dice.Dice }

// text: up to most bytes, many of them 0.
func (c *chance) text(most int) string {
	out := make([]byte, c.Below(most+1))
	for i := range out {
		if c.Below(3) == 0 {
			out[i] = byte(c.Below(256))
		}
	}
	return string(out)
}

// ahead: a Reader of s that has read n bits.
func ahead(s string, n int) *bits.Reader {
	r := bits.Open(s)
	for range n {
		r.Bits(1)
	}
	return r
}
