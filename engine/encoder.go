package engine

import (
	"zoetrope/api"
	"zoetrope/bits"
)

// Encoder narrows a range bin by bin, and writes the bits that are sure.
type Encoder struct {
	tables      *tables
	states      contexts
	open        bool // from NewEncoder on, up to a Terminate of 1
	low         int
	span        int  // the range, whose name Go keeps for itself
	outstanding int  // bits that a carry may still turn
	begun       bool // the very first bit has come: it alone is left out
	out         bits.Writer
}

// NewEncoder makes an Encoder of no bins.
func NewEncoder(states []int) *Encoder {
	return &Encoder{tables: newTables(), states: newContexts(states), open: true, span: firstRange}
}

// Bin encodes b by a context.
func (e *Encoder) Bin(ctx int, b int) api.Errno {
	if e == nil {
		return api.ErrNil
	}
	if !e.open || !e.states.has(ctx) || !isBin(b) {
		return api.ErrEngineForm
	}
	state := e.states.get(ctx)
	width := e.tables.width(state, quarter(e.span))
	likely := b == state%2
	e.span -= width
	if !likely {
		e.low += e.span
		e.span = width
	}
	e.states.set(ctx, e.tables.next(state, likely))
	e.renorm()
	return api.OK
}

// Bypass encodes b as one that is as likely as the other.
func (e *Encoder) Bypass(b int) api.Errno {
	if e == nil {
		return api.ErrNil
	}
	if !e.open || !isBin(b) {
		return api.ErrEngineForm
	}
	e.low *= 2
	if b == 1 {
		e.low += e.span
	}
	e.shift(4 * leastRange)
	return api.OK
}

// Terminate encodes whether this is the end.
func (e *Encoder) Terminate(b int) api.Errno {
	if e == nil {
		return api.ErrNil
	}
	if !e.open || !isBin(b) {
		return api.ErrEngineForm
	}
	e.span -= lastRange
	if b == 1 {
		e.low += e.span
		e.span = lastRange
	}
	e.renorm()
	if b == 1 {
		e.flush()
	}
	return api.OK
}

// Bytes tells the bits so far, with noughts up to a whole byte.
func (e *Encoder) Bytes() string {
	if e == nil {
		return ""
	}
	return e.out.Bytes()
}

// States tells each context's state.
func (e *Encoder) States() []int {
	if e == nil {
		return nil
	}
	return e.states.list()
}

// renorm doubles the range up to its least. It is above 0 here: no bin is as
// wide as the range.
func (e *Encoder) renorm() {
	for e.span < leastRange {
		e.shift(2 * leastRange)
		e.span *= 2
		e.low *= 2
	}
}

// shift takes the highest bit off low, whose scale is one from which on that
// bit is surely 1; below half of it, it is surely 0; between, a carry may come.
func (e *Encoder) shift(one int) {
	switch {
	case e.low >= one:
		e.put(1)
		e.low -= one
	case e.low < one/2:
		e.put(0)
	default:
		e.low -= one / 2
		e.outstanding++
	}
}

// put writes a bit that is sure, and with it those that hung on it. No write
// can fail.
func (e *Encoder) put(b int) {
	if e.begun {
		e.out.Bits(b, 1)
	}
	e.begun = true
	for ; e.outstanding > 0; e.outstanding-- {
		e.out.Bits(1-b, 1)
	}
}

// flush writes what of low a decoder has in hand at the end.
func (e *Encoder) flush() {
	e.put(e.low / 512 % 2)
	e.out.Bits(e.low/128%4|1, 2)
	e.open = false
}
