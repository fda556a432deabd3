package levels

import (
	"cmp"

	"zoetrope/api"
)

const mostOnes = 3 // levels that are told by their signs alone

// walk goes over a block's codes, to where they are written or from where they
// are read: one walk for both, so that one follows the other code by code.
type walk struct {
	way
}

// block writes b, or fills it with what is read: then b is empty.
func (w walk) block(b *block, size int) {
	b.many = w.upTo(b.many, size)
	if b.many == 0 {
		return
	}
	each(b.levels[:b.many], w.levels(w.upTo(b.ones(), min(mostOnes, b.many))))
	b.noughts = w.upTo(b.noughts, size-b.many)
	each(b.runs[:b.many-1], w.runs(b.noughts))
}

// each goes over a row of numbers by the code that each of them has: one loop
// for levels and runs.
func each(row []int, code func(i int, x int) int) {
	for i, x := range row {
		row[i] = code(i, x)
	}
}

// levels: their codes, the first of them signs alone.
func (w walk) levels(ones int) func(i int, x int) int {
	return func(i int, x int) int {
		switch {
		case i < ones:
			return 1 - 2*w.bit(oneIf(x < 0))
		case i == ones && ones < mostOnes:
			return w.level(x, 1) // it is no 1, or it would be one of these
		}
		return w.level(x, 0)
	}
}

// level: one whose code tells it so much nearer to 0.
func (w walk) level(x int, nearer int) int {
	told := w.se(x - nearer*cmp.Compare(x, 0))
	throwIf(told == 0, api.ErrLevelsForm)
	x = told + nearer*cmp.Compare(told, 0)
	throwIf(beyond(x), api.ErrLevelsRange)
	return x
}

// runs: their codes, while noughts are left.
func (w walk) runs(left int) func(i int, x int) int {
	return func(_ int, x int) int {
		x = w.upTo(x, left)
		left -= x
		return x
	}
}

// upTo: a number with a greatest one. Where there is no choice there is no code.
func (w walk) upTo(x int, most int) int {
	if most == 0 {
		return 0
	}
	return w.te(x, most)
}

// oneIf: a bit that tells what is so.
func oneIf(so bool) int {
	if so {
		return 1
	}
	return 0
}

// fault is an error that is thrown within this package: it ends a walk.
type fault struct {
	code api.Errno
}

// throwIf ends a walk over codes that are no block's.
func throwIf(so bool, code api.Errno) {
	if so {
		panic(fault{code})
	}
}
