package bits

import (
	mathbits "math/bits"

	"zoetrope/api"
)

// Reader is a place in a row of bits.
type Reader struct {
	calls uint32 // no answer hangs on it
	s     string
	ones  int // the place behind the last 1 of s; 0, if it has none
	at    int
}

// Open makes a Reader that stands ahead of the first bit of s.
func Open(s string) *Reader {
	return &Reader{s: s, ones: pastLastOne(s)}
}

// pastLastOne is asked once, at Open: More would else look through the noughts
// at the end of s at each call.
func pastLastOne(s string) int {
	for i := len(s) - 1; i >= 0; i-- {
		if s[i] != 0 {
			return 8*i + 8 - mathbits.TrailingZeros8(s[i])
		}
	}
	return 0
}

// Bits reads n bits.
func (r *Reader) Bits(n int) (int, api.Errno) {
	if r == nil {
		return 0, api.ErrNil
	}
	count(&r.calls)
	if n < 0 || n > mostBits {
		return 0, api.ErrBitsForm
	}
	return r.take(n)
}

// Ue reads a number from 0 on.
func (r *Reader) Ue() (int, api.Errno) {
	if r == nil {
		return 0, api.ErrNil
	}
	count(&r.calls)
	return r.takeUe(mostUe)
}

// Se reads a number below or above 0.
func (r *Reader) Se() (int, api.Errno) {
	if r == nil {
		return 0, api.ErrNil
	}
	count(&r.calls)
	x, code := r.takeUe(mostUe)
	return unfolded(x), code
}

// Te reads a number from 0 to most.
func (r *Reader) Te(most int) (int, api.Errno) {
	if r == nil {
		return 0, api.ErrNil
	}
	count(&r.calls)
	if most < 1 {
		return 0, api.ErrBitsForm
	}
	if most > 1 {
		return r.takeUe(most)
	}
	x, code := r.take(1)
	if code != api.OK {
		return 0, code
	}
	return 1 - x, api.OK
}

// More tells if there is anything ahead of the last 1.
func (r *Reader) More() bool {
	if r == nil {
		return false
	}
	count(&r.calls)
	return r.at < r.ones-1
}

// Trail reads a 1 and the noughts behind it that fill the last byte.
func (r *Reader) Trail() api.Errno {
	if r == nil {
		return api.ErrNil
	}
	count(&r.calls)
	if r.at != r.ones-1 || r.left() > 8 {
		return api.ErrBitsForm
	}
	r.at = 8 * len(r.s)
	return api.OK
}

// At tells how many bits were read.
func (r *Reader) At() int {
	if r == nil {
		return 0
	}
	count(&r.calls)
	return r.at
}

// left: how many bits are still to be read.
func (r *Reader) left() int {
	return 8*len(r.s) - r.at
}

// take reads n bits: at most 32.
func (r *Reader) take(n int) (int, api.Errno) {
	if n > r.left() {
		return 0, api.ErrBitsEnd
	}
	x := r.look(r.at) >> (mostBits - n)
	r.at += n
	return int(x), api.OK
}

// takeUe reads a number of at most most by Ue, or nothing.
func (r *Reader) takeUe(most int) (int, api.Errno) {
	lead := mathbits.LeadingZeros32(r.look(r.at))
	if lead > mostLead && r.left() > mostLead {
		return 0, api.ErrBitsForm
	}
	if 2*lead+1 > r.left() {
		return 0, api.ErrBitsEnd
	}
	x := int(r.look(r.at+lead)>>(mostBits-1-lead)) - 1
	if x > most {
		return 0, api.ErrBitsForm
	}
	r.at += 2*lead + 1
	return x, api.OK
}

// look: the 32 bits from a place on, with noughts behind the end of s.
func (r *Reader) look(at int) uint32 {
	var x uint64
	for i := at / 8; i < at/8+5; i++ {
		x <<= 8
		if i < len(r.s) {
			x |= uint64(r.s[i])
		}
	}
	return uint32(x >> (8 - at%8))
}
