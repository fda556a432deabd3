package levels_test

import "zoetrope/dice"

// chance is a row of numbers, and what is made of them.
type chance struct{ dice.Dice }

// level: any that is not 0, small ones more often.
func (c *chance) level() int {
	x := 1
	if c.Flag() {
		x = c.From(1, 32767>>c.Below(15))
	}
	if c.Flag() {
		return -x
	}
	return x
}

// block: any of a size, with few or many noughts.
func (c *chance) block(size int) []int {
	cs := make([]int, size)
	share := c.Below(10)
	for i := range cs {
		if c.Below(9) < share {
			cs[i] = c.level()
		}
	}
	return cs
}

// size of a block.
func (c *chance) size() int {
	return sizes[c.Below(len(sizes))]
}

// row: n bits, noughts or ones more often than not.
func (c *chance) row(n int) string {
	out := make([]byte, n)
	share := c.From(2, 8)
	for i := range out {
		out[i] = '0'
		if c.Below(10) < share {
			out[i] = '1'
		}
	}
	return string(out)
}
