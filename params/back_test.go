package params_test

import (
	"slices"
	"sync"
	"testing"

	"zoetrope/api"
	"zoetrope/dice"
	"zoetrope/digits"
	"zoetrope/params"
)

// spsBack tells whether s, written, is read as it was.
func spsBack(s api.Sps) bool {
	x, code := params.PutSps(s)
	got, gotCode := params.GetSps(x)
	return code == api.OK && gotCode == api.OK && shown(got) == shown(s)
}

// ppsBack tells whether p, written, is read as it was.
func ppsBack(p api.Pps) bool {
	x, code := params.PutPps(p)
	got, gotCode := params.GetPps(x)
	return code == api.OK && gotCode == api.OK && got == p
}

// P3.3: every Sps of PocType 0 and 2.
func TestEverySpsBack(t *testing.T) {
	for i := range 8 * 8 * 5 * 8 {
		s := api.Sps{Wide: 1 + i%8, High: 1 + i/8%8, FrameBits: 4 + i/64%5, PocType: 2, PocBits: 4, Refs: 1 + i/320}
		if !spsBack(s) {
			t.Fatalf("P3.3: %s", shown(s))
		}
		s.PocType = 0
		for s.PocBits = 4; s.PocBits <= 8; s.PocBits++ {
			for s.Delay = 0; s.Delay <= s.Refs; s.Delay++ {
				if !spsBack(s) {
					t.Fatalf("P3.3: %s", shown(s))
				}
			}
		}
	}
}

// P3.3: every NonRef, and as every number of a Cycle of every size.
func TestEveryCycleBack(t *testing.T) {
	for x := -1000; x <= 1000; x++ {
		for many := range 5 {
			s := cycled()
			s.NonRef, s.Cycle = x, make([]int, many)
			for i := range s.Cycle {
				s.Cycle[i] = (x+1000+i*667)%2001 - 1000
			}
			if !spsBack(s) {
				t.Fatalf("P3.3: %s", shown(s))
			}
		}
	}
}

// P3.3: every BiPred, Qp and ChromaQp, every pair of Actives, and any of all.
func TestEveryPpsBack(t *testing.T) {
	c := chance{8}
	for i := range 3 * 52 * 25 {
		p := c.pps()
		p.BiPred, p.Qp, p.ChromaQp = i%3, i/3%52, i/156-12
		if !ppsBack(p) {
			t.Fatalf("P3.3: %+v", p)
		}
		p = c.pps()
		p.Active0, p.Active1 = 1+i%8, 1+i/8%8
		if !ppsBack(p) {
			t.Fatalf("P3.3: %+v", p)
		}
	}
}

// asksAny holds both Gets of any bytes against the model, and writes again
// what was read.
func asksAny(t *testing.T, x string) {
	t.Helper()
	s, code := readSps(x)
	asksGetSps(t, x, s, code)
	if again, e := params.PutSps(s); code == api.OK && (again != x || e != api.OK) {
		t.Errorf("P3.3: %q, %d of what was read of %q", again, e, x)
	}
	p, code := readPps(x)
	asksGetPps(t, x, p, code)
	if again, e := params.PutPps(p); code == api.OK && (again != x || e != api.OK) {
		t.Errorf("P3.3: %q, %d of what was read of %q", again, e, x)
	}
}

// P3.2, P3.3: all texts of up to two bytes.
func TestEveryShortText(t *testing.T) {
	asksAny(t, "")
	for a := range 256 {
		asksAny(t, string([]byte{byte(a)}))
		for b := range 256 {
			asksAny(t, string([]byte{byte(a), byte(b)}))
		}
	}
}

// P3.2, P3.3: any bytes, and bytes of parameters with a bit turned.
func TestAnyBytes(t *testing.T) {
	c := chance{9}
	for range 20000 {
		asksAny(t, c.text(12))
		for _, x := range []string{trailed(spsRow(c.sps())), trailed(ppsRow(c.pps()))} {
			turned := []byte(x)
			turned[c.Below(len(x))] ^= 1 << c.Below(8)
			asksAny(t, string(turned))
		}
	}
}

// P3.2: any numbers by their codes, with any bits behind them.
func TestAnyNumbers(t *testing.T) {
	c := chance{10}
	for range 20000 {
		row := digits.Ue(c.Below(9), c.Below(9), c.Below(6), c.Below(4))
		for range c.Below(9) {
			row += digits.Ue(c.Below(1 << c.Below(12)))
		}
		asksAny(t, trailed(row))
	}
}

// R4: what is handed in stays as it was, with its spare room, and what was
// written stays as it is.
func TestHandedInIsLeftAlone(t *testing.T) {
	for many := range 7 {
		room := []int{3, -1, 4, -1, 5, -9, 2, 6}
		kept := slices.Clone(room)
		s := cycled()
		s.Cycle = room[:many]
		params.MaySps(s)
		x, code := params.PutSps(s)
		if !slices.Equal(room, kept) {
			t.Errorf("R4: %v", room)
		}
		if code != api.OK {
			continue
		}
		got, _ := params.GetSps(x)
		for i := range room {
			room[i] = 77
		}
		if !slices.Equal(got.Cycle, kept[:many]) || x != trailed(spsRow(got)) {
			t.Errorf("R4: %v, %q", got.Cycle, x)
		}
	}
}

// R4, R5: a Cycle that was answered is one's own: what is done to it nobody
// else's answer shows, nor a later one's.
func TestAnsweredCycleIsNewMemory(t *testing.T) {
	for many := range 5 {
		s := cycled()
		s.Cycle = s.Cycle[:many]
		x, _ := params.PutSps(s)
		first, _ := params.GetSps(x)
		other, _ := params.GetSps(x)
		for i := range first.Cycle {
			first.Cycle[i] = 77
		}
		_ = append(first.Cycle, 78, 79)
		later, _ := params.GetSps(x)
		if shown(other) != shown(s) || shown(later) != shown(s) || !spsBack(s) {
			t.Errorf("R4: %s, %s", shown(other), shown(later))
		}
	}
}

// R5: calls at one time, of several goroutines, answer as alone.
func TestCallsAtOneTime(t *testing.T) {
	var all sync.WaitGroup
	var good [8]bool
	for k := range good {
		all.Go(func() {
			c := chance{dice.Dice(k)}
			for range 500 {
				if s, p := c.sps(), c.pps(); !spsBack(s) || !ppsBack(p) {
					return
				}
			}
			good[k] = true
		})
	}
	all.Wait()
	for k, ok := range good {
		if !ok {
			t.Errorf("R5: %d", k)
		}
	}
}
