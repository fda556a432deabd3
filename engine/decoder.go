package engine

import (
	mathbits "math/bits"

	"zoetrope/api"
	"zoetrope/bits"
)

// Decoder follows an Encoder's ranges, and tells by its offset in them which
// bins they were.
type Decoder struct {
	tables *tables
	states contexts
	open   bool // from NewDecoder on, up to a Terminate of 1
	span   int  // the range, whose name Go keeps for itself
	offset int  // below span
	from   bits.Reader
}

// NewDecoder makes a Decoder that has read the first bits of s.
func NewDecoder(s string, states []int) (*Decoder, api.Errno) {
	from := bits.Open(s)
	offset, code := from.Bits(offsetBits)
	if code != api.OK {
		return nil, api.ErrEngineEnd
	}
	if offset >= firstRange {
		return nil, api.ErrEngineForm
	}
	return &Decoder{tables: newTables(), states: newContexts(states), open: true, span: firstRange, offset: offset, from: *from}, api.OK
}

// Bin decodes one by a context.
func (d *Decoder) Bin(ctx int) (int, api.Errno) {
	if d == nil {
		return 0, api.ErrNil
	}
	if !d.open || !d.states.has(ctx) {
		return 0, api.ErrEngineForm
	}
	state := d.states.get(ctx)
	width := d.tables.width(state, quarter(d.span))
	b, span, offset := state%2, d.span-width, d.offset
	likely := offset < span
	if !likely {
		b, span, offset = 1-b, width, offset-span
	}
	if !d.renorm(span, offset) {
		return 0, api.ErrEngineEnd
	}
	d.states.set(ctx, d.tables.next(state, likely))
	return b, api.OK
}

// Bypass decodes one that is as likely as the other.
func (d *Decoder) Bypass() (int, api.Errno) {
	if d == nil {
		return 0, api.ErrNil
	}
	if !d.open {
		return 0, api.ErrEngineForm
	}
	next, code := d.from.Bits(1)
	if code != api.OK {
		return 0, api.ErrEngineEnd
	}
	d.offset = 2*d.offset + next
	if d.offset < d.span {
		return 0, api.OK
	}
	d.offset -= d.span
	return 1, api.OK
}

// Terminate decodes whether this is the end.
func (d *Decoder) Terminate() (int, api.Errno) {
	if d == nil {
		return 0, api.ErrNil
	}
	if !d.open {
		return 0, api.ErrEngineForm
	}
	span := d.span - lastRange
	if d.offset >= span {
		d.open = false
		return 1, api.OK
	}
	if !d.renorm(span, d.offset) {
		return 0, api.ErrEngineEnd
	}
	return 0, api.OK
}

// At tells how many bits were read.
func (d *Decoder) At() int {
	if d == nil {
		return 0
	}
	return d.from.At()
}

// States tells each context's state.
func (d *Decoder) States() []int {
	if d == nil {
		return nil
	}
	return d.states.list()
}

// renorm takes a range and an offset, doubled up to the range's least. It reads
// all bits of that at once: where too few are left nothing has changed.
func (d *Decoder) renorm(span int, offset int) bool {
	n := offsetBits - mathbits.Len(uint(span))
	more, code := d.from.Bits(n)
	if code != api.OK {
		return false
	}
	d.span, d.offset = span<<n, offset<<n|more
	return true
}
