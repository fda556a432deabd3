package levels

import (
	"zoetrope/api"
	"zoetrope/bits"
)

// way is where codes go to, or come from: one that writes takes the number that
// it is told and answers it, one that reads answers the number that it finds.
type way interface {
	bit(x int) int
	se(x int) int
	te(x int, most int) int
}

// writing writes codes. No number that a block has is refused there.
type writing struct {
	w *bits.Writer
}

func (t writing) bit(x int) int {
	t.w.Bits(x, 1)
	return x
}

func (t writing) se(x int) int {
	t.w.Se(x)
	return x
}

func (t writing) te(x int, most int) int {
	t.w.Te(x, most)
	return x
}

// reading reads codes.
type reading struct {
	r *bits.Reader
}

func (f reading) bit(int) int {
	return found(f.r.Bits(1))
}

func (f reading) se(int) int {
	return found(f.r.Se())
}

func (f reading) te(_ int, most int) int {
	return found(f.r.Te(most))
}

// found: a number that was read. A walk ends where there is none.
func found(x int, code api.Errno) int {
	throwIf(code == api.ErrBitsEnd, api.ErrLevelsEnd)
	throwIf(code != api.OK, api.ErrLevelsForm)
	return x
}
