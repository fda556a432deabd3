package bins_test

import (
	"slices"
	"sync"
	"testing"

	"zoetrope/api"
	"zoetrope/bins"
	"zoetrope/dice"
	"zoetrope/engine"
)

// back tells whether elements that were put, behind some bins of the engine's
// own, come back one by one, and the end behind them.
func back(all []element, qp int, ahead int) bool {
	e := engine.NewEncoder(bins.Init(qp))
	for range ahead {
		e.Bypass(1)
	}
	for _, x := range all {
		if bins.Put(e, x.el, x.inc, x.v, x.most) != api.OK {
			return false
		}
	}
	e.Terminate(1)
	d, code := engine.NewDecoder(e.Bytes(), bins.Init(qp))
	if code != api.OK {
		return false
	}
	for range ahead {
		d.Bypass()
	}
	for _, x := range all {
		if v, code := bins.Get(d, x.el, x.inc, x.most); v != x.v || code != api.OK {
			return false
		}
	}
	b, code := d.Terminate()
	return b == 1 && code == api.OK && slices.Equal(d.States(), e.States())
}

// P6.3: rows of any elements.
func TestRowsBack(t *testing.T) {
	c := chance{21}
	for range 1500 {
		all, qp := c.elements(c.Below(80)), c.Below(60)-4
		if !back(all, qp, c.Below(9)) {
			t.Fatalf("P6.3: qp %d, %v", qp, all)
		}
	}
}

// P6.3: every value of every kind of element, one behind the other.
func TestEveryValueBack(t *testing.T) {
	var all []element
	for i := range 65536 {
		all = append(all, element{api.ElOne, i % 8, i, 0})
		if i < 32768 {
			all = append(all, element{api.ElMvdX + i%2, i % 7, i, 0}, element{api.ElQp, i % 5, -i, 0})
		}
	}
	for most := 1; most <= 63; most++ {
		for v := range most + 1 {
			for _, el := range shorts {
				all = append(all, element{el, v % 8, v, most})
			}
		}
	}
	for i, el := range flags {
		all = append(all, element{el, i, 0, 0}, element{el, 7 - i, 1, 0})
	}
	if !back(all, 26, 0) {
		t.Error("P6.3")
	}
}

// P6.3: the ends of each kind, at every place, alone.
func TestEndsBack(t *testing.T) {
	for el := range api.ElEnd + 1 {
		for inc := range 8 {
			for _, x := range ends(el) {
				x.inc = inc
				for _, qp := range []int{0, 26, 51} {
					if !back([]element{x}, qp, inc) {
						t.Errorf("P6.3: %v", x)
					}
				}
			}
		}
	}
}

// P6.3: as many flags as there may be in a stream, and more.
func TestManyBack(t *testing.T) {
	c := chance{22}
	all := make([]element, 2*api.MaxBytes)
	for i := range all {
		all[i] = element{api.ElSig, c.Below(8), c.Below(2), 0}
	}
	if !back(all, 30, 0) {
		t.Error("P6.3")
	}
}

// R5: an element that the bits end in is told again and again, and the bins
// that the engine holds are still there one by one.
func TestEngineGoesOn(t *testing.T) {
	states := bins.Init(26)
	s := laid(t, 0, api.ElMvdX, 0, "111111111"+"bbbb", states)
	d, m := opened(s, states)
	for range 3 {
		if v, code := bins.Get(d, api.ElMvdX, 0, 0); v != 0 || code != api.ErrBinsEnd {
			t.Fatalf("P6.2: %d, %d", v, code)
		}
	}
	for i := range 9 {
		b, code := d.Bin(8*api.ElMvdX + min(i, 7))
		m.Bin(8*api.ElMvdX + min(i, 7))
		if b != 1 || code != api.OK {
			t.Fatalf("R5: %d: %d, %d", i, b, code)
		}
		sameDecoder(t, "R5", d, m)
	}
}

// R5: calls of several goroutines don't touch each other.
func TestSeveralAtOnce(t *testing.T) {
	var all sync.WaitGroup
	var good [8]bool
	for k := range good {
		all.Go(func() {
			c := chance{dice.Dice(k)}
			good[k] = back(c.elements(2000), k, k)
			for range 300 {
				x := c.element()
				s, code := bins.Bits(x.el, x.v, x.most)
				good[k] = good[k] && s == binsOf(x.el, x.v, x.most) && code == api.OK
			}
		})
	}
	all.Wait()
	for k, ok := range good {
		if !ok {
			t.Errorf("R5: %d", k)
		}
	}
}
