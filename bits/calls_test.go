package bits

import (
	"math"
	"testing"

	"zoetrope/api"
)

// Every call of a Writer is counted once, those that answer an error too.
func TestWriterCounts(t *testing.T) {
	w := New()
	w.Bits(1, 1)
	w.Ue(3)
	w.Se(-3)
	w.Te(1, 1)
	w.Te(9, 1)
	w.Trail()
	w.Len()
	w.Bytes()
	if w.calls != 8 {
		t.Errorf("%d calls", w.calls)
	}
}

// So every call of a Reader.
func TestReaderCounts(t *testing.T) {
	r := Open("\xff")
	r.Bits(1)
	r.Bits(99)
	r.Ue()
	r.Se()
	r.Te(1)
	r.Te(2)
	r.More()
	r.Trail()
	r.At()
	if r.calls != 9 {
		t.Errorf("%d calls", r.calls)
	}
}

// R5: no answer hangs on the counter, nor on its going round.
func TestNothingHangsOnCounts(t *testing.T) {
	for _, calls := range []uint32{0, 1, 77, math.MaxUint32 - 1, math.MaxUint32} {
		w := New()
		w.calls = calls
		if w.Ue(3) != api.OK || w.Ue(-1) != api.ErrBitsForm || w.Len() != 5 || w.Bytes() != "\x20" {
			t.Errorf("R5: Writer behind %d calls", calls)
		}
		r := Open("\x20")
		r.calls = calls
		x, code := r.Ue()
		if x != 3 || code != api.OK || r.At() != 5 || r.More() || r.Trail() != api.ErrBitsForm {
			t.Errorf("R5: Reader behind %d calls", calls)
		}
	}
}
