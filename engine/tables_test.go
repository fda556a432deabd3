package engine

import (
	"sync"
	"testing"
)

// The tables are made once, when they are first asked, and their owner's own.
func TestTablesAreMadeOnce(t *testing.T) {
	own, made := newTables(), 0
	if own.widths[0][0] != 0 || own.width(0, 0) != 128 || own.next(124, false) != 76 {
		t.Error("not made when asked")
	}
	own.once.Do(func() { made++ })
	own.widths[0][0], own.falls[62] = 5, 6
	if made != 0 || own.width(1, 0) != 5 || own.next(124, false) != 12 {
		t.Error("made again")
	}
	if newTables().width(0, 0) != 128 || newTables().next(124, false) != 76 {
		t.Error("another's tables")
	}
}

// Each Encoder and each Decoder has an owner of its own.
func TestEachHasTables(t *testing.T) {
	one, other := NewEncoder(nil), NewEncoder(nil)
	d, _ := NewDecoder("\x00\x00", nil)
	if one.tables == other.tables || one.tables == d.tables || d.tables == nil {
		t.Error("one owner of two")
	}
}

// The first who ask may ask at one time.
func TestTablesAtFirst(t *testing.T) {
	own := newTables()
	var all sync.WaitGroup
	var widths, nexts [8]int
	for i := range widths {
		all.Go(func() { widths[i], nexts[i] = own.width(9, i%4), own.next(9, false) })
	}
	all.Wait()
	for i := range widths {
		if widths[i] != newTables().width(9, i%4) || nexts[i] != 5 {
			t.Errorf("%d: %d, %d", i, widths[i], nexts[i])
		}
	}
}
