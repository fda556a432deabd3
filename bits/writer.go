package bits

import (
	mathbits "math/bits"

	"zoetrope/api"
)

// Writer is a row of bits that grows at its end. Bits that fill no byte yet
// are held apart, so that bytes once written never change.
type Writer struct {
	calls uint32 // no answer hangs on it
	whole []byte
	rest  uint64
	held  int // bits of rest: 0 to 7 between calls
}

// New makes a Writer of no bits.
func New() *Writer {
	return &Writer{}
}

// Bits writes x as n bits.
func (w *Writer) Bits(x int, n int) api.Errno {
	if w == nil {
		return api.ErrNil
	}
	count(&w.calls)
	if n < 0 || n > mostBits || x < 0 || x>>n != 0 {
		return api.ErrBitsForm
	}
	w.put(uint64(x), n)
	return api.OK
}

// Ue writes x, from 0 on.
func (w *Writer) Ue(x int) api.Errno {
	if w == nil {
		return api.ErrNil
	}
	count(&w.calls)
	return w.putUe(x)
}

// Se writes x, below or above 0.
func (w *Writer) Se(x int) api.Errno {
	if w == nil {
		return api.ErrNil
	}
	count(&w.calls)
	if x < -mostSe || x > mostSe {
		return api.ErrBitsForm
	}
	return w.putUe(folded(x))
}

// Te writes x, from 0 to most.
func (w *Writer) Te(x int, most int) api.Errno {
	if w == nil {
		return api.ErrNil
	}
	count(&w.calls)
	if most < 1 || x < 0 || x > most {
		return api.ErrBitsForm
	}
	if most == 1 {
		w.put(uint64(1-x), 1)
		return api.OK
	}
	return w.putUe(x)
}

// Trail writes a 1, then noughts up to a whole byte.
func (w *Writer) Trail() {
	if w == nil {
		return
	}
	count(&w.calls)
	w.put(1, 1)
	if w.held > 0 {
		w.put(0, 8-w.held)
	}
}

// Len tells how many bits were written.
func (w *Writer) Len() int {
	if w == nil {
		return 0
	}
	count(&w.calls)
	return 8*len(w.whole) + w.held
}

// Bytes tells what was written, with noughts up to a whole byte.
func (w *Writer) Bytes() string {
	if w == nil {
		return ""
	}
	count(&w.calls)
	whole := string(w.whole)
	if w.held == 0 {
		return whole
	}
	return whole + string([]byte{byte(w.rest << (8 - w.held))})
}

// putUe writes x by Ue, or nothing.
func (w *Writer) putUe(x int) api.Errno {
	if x < 0 || x > mostUe {
		return api.ErrBitsForm
	}
	digits := mathbits.Len64(uint64(x) + 1)
	w.put(0, digits-1)
	w.put(uint64(x)+1, digits)
	return api.OK
}

// put writes the n lowest bits of x, the only ones that it has: at most 32.
func (w *Writer) put(x uint64, n int) {
	w.rest = w.rest<<n | x
	w.held += n
	for w.held >= 8 {
		w.held -= 8
		w.whole = append(w.whole, byte(w.rest>>w.held))
	}
	w.rest &= 1<<w.held - 1
}
