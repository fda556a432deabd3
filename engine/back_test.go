package engine_test

import (
	"slices"
	"sync"
	"testing"

	"zoetrope/api"
	"zoetrope/dice"
	"zoetrope/digits"
	"zoetrope/engine"
)

// back tells whether calls, encoded and terminated, with some bytes behind, are
// decoded as they were, to the last bit.
func back(all []bin, states []int, behind string) bool {
	e := engine.NewEncoder(states)
	for _, x := range all {
		if x.put(e) != api.OK {
			return false
		}
	}
	if e.Terminate(1) != api.OK {
		return false
	}
	d, code := engine.NewDecoder(e.Bytes()+behind, states)
	if code != api.OK || d.At() != 9 {
		return false
	}
	for _, x := range all {
		if b, code := x.get(d); b != x.b || code != api.OK {
			return false
		}
	}
	b, code := d.Terminate()
	last := digits.Spread(e.Bytes())[d.At()-1]
	return b == 1 && code == api.OK && (d.At()+7)/8 == len(e.Bytes()) && last == '1' && slices.Equal(d.States(), e.States())
}

// P5.4: rows of any calls.
func TestRowsBack(t *testing.T) {
	c := chance{5}
	for range 3000 {
		many := c.Below(9)
		all, states := c.calls(c.Below(250), many), c.Numbers(many, 128)
		if !back(all, states, c.Text(c.Below(3))) {
			t.Fatalf("P5.4: %v of %v", all, states)
		}
	}
}

// P5.4: every row of up to ten bins of each kind, of the ends of states.
func TestEveryShortRowBack(t *testing.T) {
	for n := range 11 {
		for row := range 1 << n {
			for _, state := range []int{0, 1, 124, 125, 126, 127, 40} {
				plain, mixed := make([]bin, n), make([]bin, n)
				for i := range n {
					b := row >> i & 1
					plain[i] = bin{byContext, 0, b}
					mixed[i] = bin{(i + state) % 2, 0, b}
				}
				if !back(plain, []int{state}, "") || !back(mixed, []int{state}, "") {
					t.Fatalf("P5.4: %b of %d, state %d", row, n, state)
				}
			}
		}
	}
}

// P5.4: bins that are all alike, for long, by a context, by none and as ends.
func TestLongRowsBack(t *testing.T) {
	for _, x := range []bin{{byContext, 0, 0}, {byContext, 0, 1}, {byBypass, 0, 0}, {byBypass, 0, 1}, {byTerminate, 0, 0}} {
		for _, state := range []int{0, 1, 60, 126, 127} {
			if !back(slices.Repeat([]bin{x}, 20000), []int{state}, "") {
				t.Errorf("P5.4: %v, %d", x, state)
			}
		}
	}
	if !back(waits(t, 70000), nil, "\xff") {
		t.Error("P5.4: bits that wait")
	}
}

// P5.4: as many bins as a stream's greatest length holds.
func TestGreatRowBack(t *testing.T) {
	c := chance{12}
	all := make([]bin, 8*api.MaxBytes)
	for i := range all {
		all[i] = bin{byContext, c.Below(api.Contexts), c.Below(2)}
	}
	if !back(all, c.Numbers(api.Contexts, 128), "") {
		t.Error("P5.4")
	}
}

// P5.4: what is likely by its states takes little room.
func TestLikelyIsShort(t *testing.T) {
	e := engine.NewEncoder([]int{0})
	for range 8000 {
		e.Bin(0, 0)
	}
	e.Terminate(1)
	if n := len(e.Bytes()); n > 60 {
		t.Errorf("P5.2: %d bytes", n)
	}
}

// R4: what is handed in stays as it was, its spare room too, and is not kept.
func TestStatesStayTheirs(t *testing.T) {
	room := []int{5, -1, 9, 77, 78}
	e := engine.NewEncoder(room[:3])
	d, _ := engine.NewDecoder("\x12\x34\x56", room[:3])
	for range 3 {
		e.Bin(0, 1)
		d.Bin(0)
		e.Bin(2, 0)
		d.Bin(2)
	}
	if !slices.Equal(room, []int{5, -1, 9, 77, 78}) {
		t.Errorf("R4: %v", room)
	}
	e = engine.NewEncoder(room[:3])
	d, _ = engine.NewDecoder("\x12\x34\x56", room[:3])
	room[0], room[2] = 100, 101
	if want := []int{5, 0, 9}; !slices.Equal(e.States(), want) || !slices.Equal(d.States(), want) {
		t.Errorf("R4: %v, %v", e.States(), d.States())
	}
}

// R4: what is told is one's own: neither another answer nor the object shares it.
func TestToldStatesAreOnesOwn(t *testing.T) {
	e := engine.NewEncoder([]int{5, 6})
	d, _ := engine.NewDecoder("\x12\x34\x56", []int{5, 6})
	for _, told := range []func() []int{e.States, d.States} {
		one, other := told(), told()
		one[0] = 99
		for i := range one[:cap(one)] {
			one[:cap(one)][i] = 99
		}
		if !slices.Equal(other, []int{5, 6}) || !slices.Equal(told(), []int{5, 6}) {
			t.Errorf("R4: %v, %v", other, told())
		}
	}
	kept := e.States()
	e.Bin(0, 0)
	if !slices.Equal(kept, []int{5, 6}) || slices.Equal(e.States(), kept) {
		t.Error("R4: what was told has changed")
	}
}

// R4: bytes that were told stay as they are.
func TestBytesAreKept(t *testing.T) {
	e := engine.NewEncoder(nil)
	for range 12 {
		e.Bypass(0)
	}
	told := e.Bytes()
	for range 30 {
		e.Bypass(1)
	}
	if told != "\x00\x00" {
		t.Errorf("R4: %q", told)
	}
}

// R5: objects of several goroutines don't touch each other.
func TestSeveralAtOnce(t *testing.T) {
	var all sync.WaitGroup
	var good [8]bool
	for k := range good {
		all.Go(func() {
			c := chance{dice.Dice(k)}
			good[k] = back(c.calls(3000, 7), c.Numbers(7, 128), "")
		})
	}
	all.Wait()
	for k, ok := range good {
		if !ok {
			t.Errorf("R5: %d", k)
		}
	}
}

// An Encoder or Decoder may be copied, and laid back to where it was: later
// layers go back beside an error so.
func TestLaidBack(t *testing.T) {
	c := chance{13}
	states := c.Numbers(api.Contexts, 128)
	ahead, lost, rest := c.calls(50, len(states)), c.calls(50, len(states)), c.calls(50, len(states))
	e, m := engine.NewEncoder(states), newEncoder(states)
	for _, x := range ahead {
		x.put(e)
		m.call(x)
	}
	kept := *e
	for _, x := range append(lost, bin{byTerminate, 0, 1}) {
		x.put(e)
	}
	*e = kept
	sameEncoder(t, "laid back", e, m)
	for _, x := range append(rest, bin{byTerminate, 0, 1}) {
		x.put(e)
		m.call(x)
	}
	sameEncoder(t, "laid back", e, m)

	d, n := opened(t, e.Bytes(), states)
	for _, x := range ahead {
		asks(t, "laid back", d, n, x)
	}
	place := *d
	for _, x := range lost {
		x.get(d)
	}
	*d = place
	sameDecoder(t, "laid back", d, n)
	for _, x := range rest {
		asks(t, "laid back", d, n, x)
	}
}
