package bits_test

import (
	"strings"
	"sync"
	"testing"

	"zoetrope/api"
	"zoetrope/bits"
	"zoetrope/dice"
	"zoetrope/digits"
)

// item is a number and the code that it is written by.
type item struct {
	kind int // 0: Bits, 1: Ue, 2: Se, 3: Te
	x    int
	size int // Bits' n, Te's greatest
}

func (i item) put(w *bits.Writer) api.Errno {
	switch i.kind {
	case 0:
		return w.Bits(i.x, i.size)
	case 1:
		return w.Ue(i.x)
	case 2:
		return w.Se(i.x)
	}
	return w.Te(i.x, i.size)
}

func (i item) get(r *bits.Reader) (int, api.Errno) {
	switch i.kind {
	case 0:
		return r.Bits(i.size)
	case 1:
		return r.Ue()
	case 2:
		return r.Se()
	}
	return r.Te(i.size)
}

// anyItem: a number of any of the codes.
func anyItem(c *chance) item {
	n := c.Below(33)
	x := (c.Below(1<<16)<<16 | c.Below(1<<16)) & (1<<n - 1)
	switch kind := c.Below(4); kind {
	case 1:
		return item{kind, min(x, digits.GreatestUe), 0}
	case 2:
		return item{kind, (x % (digits.GreatestSe + 1)) * (1 - 2*c.Below(2)), 0}
	case 3:
		most := 1 + c.Below(1<<(1+c.Below(20)))
		return item{kind, x % (most + 1), most}
	}
	return item{0, x, n}
}

// edgeItems: greatest and least numbers of each code.
func edgeItems() []item {
	return []item{
		{0, 0, 0}, {0, 0, 1}, {0, 1, 1}, {0, 0, 32}, {0, 1<<32 - 1, 32},
		{1, 0, 0}, {1, digits.GreatestUe, 0},
		{2, 0, 0}, {2, digits.GreatestSe, 0}, {2, -digits.GreatestSe, 0},
		{3, 0, 1}, {3, 1, 1}, {3, 0, 2}, {3, 2, 2}, {3, digits.GreatestUe, digits.GreatestUe},
	}
}

// back tells whether items, written, are read as they were.
func back(items []item) bool {
	w := bits.New()
	for _, i := range items {
		if i.put(w) != api.OK {
			return false
		}
	}
	end := w.Len()
	w.Trail()
	r := bits.Open(w.Bytes())
	for _, i := range items {
		if x, code := i.get(r); x != i.x || code != api.OK {
			return false
		}
	}
	return r.At() == end && !r.More() && r.Trail() == api.OK && r.At() == w.Len()
}

// P1.3: every edge behind and ahead of every other.
func TestEdgesBack(t *testing.T) {
	edges := edgeItems()
	for _, a := range edges {
		for _, b := range edges {
			for held := range 8 {
				if items := []item{{0, 0, held}, a, b, {0, 1, 1}}; !back(items) {
					t.Errorf("P1.3: %v", items)
				}
			}
		}
	}
}

// P1.3: small numbers of each code, one by one.
func TestSmallBack(t *testing.T) {
	for x := range 3000 {
		if !back([]item{{0, x, 12}, {1, x, 0}, {2, x, 0}, {2, -x, 0}, {3, x, 3000}}) {
			t.Errorf("P1.3: %d", x)
		}
	}
}

// P1.3: rows of any numbers.
func TestRowsBack(t *testing.T) {
	c := chance{11}
	for range 3000 {
		items := make([]item, c.Below(40))
		for i := range items {
			items[i] = anyItem(&c)
		}
		if !back(items) {
			t.Fatalf("P1.3: %v", items)
		}
	}
}

// P1.3: what is read from any bytes is written as it stood.
func TestReadThenWritten(t *testing.T) {
	c := chance{5}
	for range 5000 {
		s := c.text(40)
		r, w := bits.Open(s), bits.New()
		for {
			i := anyItem(&c)
			x, code := i.get(r)
			if code != api.OK {
				break
			}
			i.x = x
			if i.put(w) != api.OK {
				t.Fatalf("P1.3: %v of %q", i, s)
			}
			if r.At() == 8*len(s) {
				break
			}
		}
		sameBits(t, "P1.3", w, digits.Spread(s)[:r.At()])
	}
}

// R5: objects of several goroutines don't touch each other.
func TestSeveralAtOnce(t *testing.T) {
	var all sync.WaitGroup
	var good [8]bool
	for k := range good {
		all.Go(func() {
			c := chance{dice.Dice(k)}
			items := make([]item, 500)
			for i := range items {
				items[i] = anyItem(&c)
			}
			good[k] = back(items)
		})
	}
	all.Wait()
	for k, ok := range good {
		if !ok {
			t.Errorf("R5: %d", k)
		}
	}
}

// A Reader or Writer may be copied, and laid back to where it was: later
// layers go back beside an error so.
func TestLaidBack(t *testing.T) {
	w := bits.New()
	w.Bits(5, 3)
	kept := *w
	w.Ue(12345)
	w.Trail()
	*w = kept
	w.Ue(3)
	sameBits(t, "laid back", w, "101"+"00100")

	r := bits.Open(digits.Packed(strings.Repeat("01", 20)))
	r.Bits(3)
	place := *r
	r.Ue()
	*r = place
	x, code := r.Bits(2)
	holds(t, "laid back", r, x, code, 2, api.OK, 5)
}
