package engine_test

import "zoetrope/dice"

// chance is a row of numbers, and what is made of them.
type chance struct{ dice.Dice }

// call: any kind, of many contexts; its bin is 1 in skew of 10.
func (c *chance) call(many int, skew int) bin {
	x := bin{kind: byContext}
	switch c.Below(8) {
	case 0:
		return bin{kind: byTerminate}
	case 1:
		x.kind = byBypass
	}
	if many == 0 {
		x.kind = byBypass
	}
	if x.kind == byContext {
		x.ctx = c.Below(many)
	}
	if c.Below(10) < skew {
		x.b = 1
	}
	return x
}

// calls: n of them, none the end.
func (c *chance) calls(n int, many int) []bin {
	skew := c.Below(11)
	out := make([]bin, n)
	for i := range out {
		out[i] = c.call(many, skew)
	}
	return out
}
