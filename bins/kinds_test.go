package bins

import (
	"math"
	"sync"
	"testing"

	"zoetrope/api"
)

// The table is made once, when it is first asked, and its owner's own.
func TestKindsAreMadeOnce(t *testing.T) {
	k, made := newKinds(), 0
	if k.table != (kinds{}).table {
		t.Error("made ahead of being asked")
	}
	if k.of(api.ElSkip) != flag {
		t.Errorf("%d", k.of(api.ElSkip))
	}
	k.once.Do(func() { made++ })
	k.table[api.ElSkip] = great
	if made != 0 || k.of(api.ElSkip) != great {
		t.Error("made again")
	}
	if newKinds().of(api.ElSkip) != flag {
		t.Error("another's table")
	}
}

// Each element has a kind, and nothing else has; the first who ask may ask at
// one time.
func TestKindsAtOneTime(t *testing.T) {
	var all sync.WaitGroup
	k := newKinds()
	var got [8][api.ElEnd + 1]kind
	for i := range got {
		all.Go(func() {
			for el := range got[i] {
				got[i][el] = k.of(el)
			}
		})
	}
	all.Wait()
	for i := range got {
		if got[i] != k.table {
			t.Errorf("%v", got[i])
		}
	}
	for el, of := range k.table {
		if of == none {
			t.Errorf("element %d has no kind", el)
		}
	}
	for _, el := range []int{math.MinInt, -1, api.ElEnd + 1, math.MaxInt} {
		if k.of(el) != none {
			t.Errorf("%d: %d", el, k.of(el))
		}
	}
}
