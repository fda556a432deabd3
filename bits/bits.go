// Package bits writes and reads bits and their codes: plain numbers, Ue, Se
// and Te, the highest bit of a byte first. See DOC.md, chapter 1.
package bits

import "sync/atomic"

const (
	mostBits = 32        // of one plain number
	mostUe   = 1<<31 - 2 // what Ue may tell: 30 noughts, then 31 digits of 1
	mostSe   = 1<<30 - 1 // the same, below and above 0
	mostLead = 30        // noughts ahead of a code's first 1
)

// count adds a call to a counter. The counter is a plain word, not an
// atomic.Uint32, so that a Writer or Reader may be copied whole by one who
// wants to go back to where it was.
func count(calls *uint32) {
	atomic.AddUint32(calls, 1)
}

// folded: Se's number as Ue's.
func folded(x int) int {
	if x > 0 {
		return 2*x - 1
	}
	return -2 * x
}

// unfolded: Ue's number as Se's.
func unfolded(x int) int {
	if x%2 == 1 {
		return (x + 1) / 2
	}
	return -(x / 2)
}
