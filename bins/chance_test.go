package bins_test

import (
	"zoetrope/api"
	"zoetrope/dice"
)

// chance is a row of numbers, and what is made of them.
type chance struct{ dice.Dice }

// element is what a call of Put names.
type element struct{ el, inc, v, most int }

// element: any that may be, great values as often as small ones.
func (c *chance) element() element {
	x := element{c.Below(api.ElEnd + 1), c.Below(8), 0, 1 + c.Below(63)}
	switch kindOf(x.el) {
	case 'f':
		x.v, x.most = c.Below(2), c.Below(200)-100
	case 's':
		x.v = c.Below(x.most + 1)
	case '+':
		x.v = c.Below(32768) >> c.Below(16) * (1 - 2*c.Below(2))
	default:
		x.v = c.Below(65536) >> c.Below(17)
	}
	return x
}

// elements: n of them.
func (c *chance) elements(n int) []element {
	out := make([]element, n)
	for i := range out {
		out[i] = c.element()
	}
	return out
}
