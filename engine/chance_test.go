package engine_test

// chance is a row of numbers, the same in each run.
type chance uint64

func (c *chance) below(n int) int {
	*c = *c*6364136223846793005 + 1442695040888963407
	return int(uint64(*c) >> 33 % uint64(n))
}

// text: n bytes.
func (c *chance) text(n int) string {
	out := make([]byte, n)
	for i := range out {
		out[i] = byte(c.below(256))
	}
	return string(out)
}

// states: n that there are.
func (c *chance) states(n int) []int {
	out := make([]int, n)
	for i := range out {
		out[i] = c.below(128)
	}
	return out
}

// call: any kind, of many contexts; its bin is 1 in skew of 10.
func (c *chance) call(many int, skew int) bin {
	x := bin{kind: byContext}
	switch c.below(8) {
	case 0:
		return bin{kind: byTerminate}
	case 1:
		x.kind = byBypass
	}
	if many == 0 {
		x.kind = byBypass
	}
	if x.kind == byContext {
		x.ctx = c.below(many)
	}
	if c.below(10) < skew {
		x.b = 1
	}
	return x
}

// calls: n of them, none the end.
func (c *chance) calls(n int, many int) []bin {
	skew := c.below(11)
	out := make([]bin, n)
	for i := range out {
		out[i] = c.call(many, skew)
	}
	return out
}
