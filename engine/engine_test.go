package engine_test

import (
	"math"
	"sync"
	"testing"

	"zoetrope/engine"
)

// P5.1: every state and quarter, as the chapter writes them.
func TestEveryRange(t *testing.T) {
	model := chapter
	if len(model.widths) != 256 || len(model.falls) != 64 {
		t.Fatal("the chapter's tables")
	}
	for state := range 128 {
		for q := range 4 {
			if got := engine.Range(state, q); got != model.width(state, q) {
				t.Errorf("P5.1: Range %d, %d: %d", state, q, got)
			}
		}
	}
}

// P5.1: every state behind either bin.
func TestEveryNext(t *testing.T) {
	model := chapter
	for state := range 128 {
		for _, mps := range []bool{true, false} {
			if got := engine.Next(state, mps); got != model.next(state, mps) {
				t.Errorf("P5.1: Next %d, %v: %d", state, mps, got)
			}
		}
	}
}

// P5.1: the ends that the chapter names, number by number.
func TestNextEnds(t *testing.T) {
	for _, c := range []struct {
		state int
		mps   bool
		want  int
	}{
		{0, true, 2}, {1, true, 3}, {0, false, 1}, {1, false, 0}, {2, false, 0}, {3, false, 1},
		{122, true, 124}, {123, true, 125}, {124, true, 124}, {125, true, 125}, {126, true, 126}, {127, true, 127},
		{124, false, 76}, {125, false, 77}, {126, false, 126}, {127, false, 127},
	} {
		if got := engine.Next(c.state, c.mps); got != c.want {
			t.Errorf("P5.1: Next %d, %v: %d", c.state, c.mps, got)
		}
	}
}

// P5.1: of what is none: 0.
func TestTablesOfNone(t *testing.T) {
	noStates := []int{-1, -2, 128, 129, 256, math.MinInt, math.MaxInt, 1 << 32, -1 << 32}
	for _, state := range noStates {
		for q := -1; q < 5; q++ {
			if got := engine.Range(state, q); got != 0 {
				t.Errorf("P5.1: Range %d, %d: %d", state, q, got)
			}
		}
		if engine.Next(state, true) != 0 || engine.Next(state, false) != 0 {
			t.Errorf("P5.1: Next %d", state)
		}
	}
	for _, q := range []int{-1, -4, 4, 5, 256, math.MinInt, math.MaxInt, 1 << 32} {
		for state := range 128 {
			if got := engine.Range(state, q); got != 0 {
				t.Errorf("P5.1: Range %d, %d: %d", state, q, got)
			}
		}
	}
}

// R5: plain calls at one time.
func TestTablesAtOneTime(t *testing.T) {
	model := chapter
	var all sync.WaitGroup
	var bad [8]int
	for i := range bad {
		all.Go(func() {
			for state := range 128 {
				if engine.Range(state, i%4) != model.width(state, i%4) || engine.Next(state, i < 4) != model.next(state, i < 4) {
					bad[i]++
				}
			}
		})
	}
	all.Wait()
	if bad != [8]int{} {
		t.Errorf("R5: %v", bad)
	}
}
