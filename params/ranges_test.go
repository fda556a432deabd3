package params

import (
	"math"
	"sync"
	"testing"
)

// The table is made once, when it is first asked, and its owner's own.
func TestRangesAreMadeOnce(t *testing.T) {
	k, made := keeper{}, 0
	if k.of(qp) != (span{0, 51}) {
		t.Errorf("%v", k.of(qp))
	}
	k.once.Do(func() { made++ })
	k.table[qp] = span{5, 6}
	if made != 0 || k.of(qp) != (span{5, 6}) {
		t.Error("made again")
	}
	if new(keeper).of(qp) != (span{0, 51}) {
		t.Error("another's table")
	}
}

// Every kind has a range; the first who ask may ask at one time.
func TestRangesAtOneTime(t *testing.T) {
	var k keeper
	var all sync.WaitGroup
	var other keeper
	var got [8][kinds]span
	for i := range got {
		all.Go(func() {
			for which := range kinds {
				got[i][which] = k.of(which)
			}
		})
	}
	all.Wait()
	for i := range got {
		for which, s := range got[i] {
			if s.least >= s.most || s != other.of(kind(which)) {
				t.Errorf("kind %d: %v", which, s)
			}
		}
	}
}

// A span holds both its ends, nothing beyond them, and whatever there is none of.
func TestSpan(t *testing.T) {
	s := span{-2, 3}
	if !s.holds() || !s.holds(-2, -1, 0, 3) || s.holds(-3) || s.holds(4) || s.holds(0, 4) || s.holds(math.MinInt, 0) || s.holds(0, math.MaxInt) {
		t.Error("span")
	}
}
