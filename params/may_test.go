package params_test

import (
	"math"
	"testing"

	"zoetrope/api"
	"zoetrope/params"
)

// asksSps holds MaySps and what PutSps says of it against what is asked.
func asksSps(t *testing.T, s api.Sps, want bool) {
	t.Helper()
	if params.MaySps(s) != want {
		t.Errorf("P3.1: MaySps of %s: %v", shown(s), !want)
	}
	x, code := params.PutSps(s)
	if !want && (x != "" || code != api.ErrParamsRange) {
		t.Errorf("P3.2: PutSps of %s: %q, %d", shown(s), x, code)
	}
	if want && (x != trailed(spsRow(s)) || code != api.OK) {
		t.Errorf("P3.2: PutSps of %s: %q, %d, want %q", shown(s), x, code, trailed(spsRow(s)))
	}
}

// asksPps does the same for MayPps and PutPps.
func asksPps(t *testing.T, p api.Pps, want bool) {
	t.Helper()
	if params.MayPps(p) != want {
		t.Errorf("P3.1: MayPps of %+v: %v", p, !want)
	}
	x, code := params.PutPps(p)
	if !want && (x != "" || code != api.ErrParamsRange) {
		t.Errorf("P3.2: PutPps of %+v: %q, %d", p, x, code)
	}
	if want && (x != trailed(ppsRow(p)) || code != api.OK) {
		t.Errorf("P3.2: PutPps of %+v: %q, %d, want %q", p, x, code, trailed(ppsRow(p)))
	}
}

// one of each PocType that may be, with Refs and Delay between their ends.
func counted() api.Sps {
	return api.Sps{Wide: 3, High: 5, FrameBits: 6, PocType: 0, PocBits: 7, Refs: 4, Delay: 2}
}

func cycled() api.Sps {
	return api.Sps{Wide: 3, High: 5, FrameBits: 6, PocType: 1, PocBits: 4, NonRef: -7, Cycle: []int{5, 0, -5, 1}, Refs: 4, Delay: 2}
}

func unordered() api.Sps {
	return api.Sps{Wide: 3, High: 5, FrameBits: 6, PocType: 2, PocBits: 4, Refs: 4}
}

func anyPps() api.Pps {
	return api.Pps{Weighted: true, BiPred: 1, Qp: 26, ChromaQp: -3, Constrained: true, Active0: 3, Active1: 2}
}

// around: every number from least - 3 to most + 3, and those far off, which
// a narrower number would take for one within.
func around(least, most int) []int {
	row := []int{math.MinInt, math.MinInt + least, math.MinInt32, -1<<32 + least, -1<<16 + least, -1<<8 + least,
		1<<8 + least, 1<<16 + most, math.MaxInt32, 1<<32 + least, 1<<62 + least, math.MaxInt}
	for x := least - 3; x <= most+3; x++ {
		row = append(row, x)
	}
	return row
}

// P3.1: each range of an Sps, one number at a time, the others as they may be.
func TestSpsRanges(t *testing.T) {
	for _, c := range []struct {
		from        func() api.Sps
		field       func(s *api.Sps) *int
		least, most int
	}{
		{counted, func(s *api.Sps) *int { return &s.Wide }, 1, 8},
		{cycled, func(s *api.Sps) *int { return &s.High }, 1, 8},
		{unordered, func(s *api.Sps) *int { return &s.FrameBits }, 4, 8},
		{counted, func(s *api.Sps) *int { return &s.PocBits }, 4, 8},
		{cycled, func(s *api.Sps) *int { return &s.PocBits }, 4, 4},
		{unordered, func(s *api.Sps) *int { return &s.PocBits }, 4, 4},
		{counted, func(s *api.Sps) *int { return &s.NonRef }, 0, 0},
		{cycled, func(s *api.Sps) *int { return &s.NonRef }, -1000, 1000},
		{unordered, func(s *api.Sps) *int { return &s.NonRef }, 0, 0},
		{cycled, func(s *api.Sps) *int { return &s.Cycle[0] }, -1000, 1000},
		{cycled, func(s *api.Sps) *int { return &s.Cycle[1] }, -1000, 1000},
		{cycled, func(s *api.Sps) *int { return &s.Cycle[2] }, -1000, 1000},
		{cycled, func(s *api.Sps) *int { return &s.Cycle[3] }, -1000, 1000},
		{unordered, func(s *api.Sps) *int { return &s.Refs }, 1, 8},
		{counted, func(s *api.Sps) *int { return &s.Delay }, 0, 4},
		{cycled, func(s *api.Sps) *int { return &s.Delay }, 0, 4},
		{unordered, func(s *api.Sps) *int { return &s.Delay }, 0, 0},
		{counted, func(s *api.Sps) *int { return &s.PocType }, 0, 0},
		{cycled, func(s *api.Sps) *int { return &s.PocType }, 1, 1},
		{unordered, func(s *api.Sps) *int { return &s.PocType }, 0, 2},
	} {
		for _, x := range around(c.least, c.most) {
			s := c.from()
			*c.field(&s) = x
			asksSps(t, s, x >= c.least && x <= c.most)
		}
	}
}

// P3.1: Delay from 0 to Refs, whatever Refs is.
func TestDelayIsAtMostRefs(t *testing.T) {
	for refs := -1; refs <= 10; refs++ {
		for delay := -2; delay <= 11; delay++ {
			s := counted()
			s.Refs, s.Delay = refs, delay
			asksSps(t, s, refs >= 1 && refs <= 8 && delay >= 0 && delay <= refs)
			s = unordered()
			s.Refs, s.Delay = refs, delay
			asksSps(t, s, refs >= 1 && refs <= 8 && delay == 0)
		}
	}
}

// P3.1: what each PocType asks, one thing at a time, and by twos.
func TestPocTypes(t *testing.T) {
	for kind := -1; kind <= 3; kind++ {
		for bits := 4; bits <= 8; bits++ {
			for many := range 6 {
				for _, step := range []int{-1, 0, 1} {
					for delay := range 2 {
						s := api.Sps{Wide: 1, High: 1, FrameBits: 4, PocType: kind, PocBits: bits, NonRef: step, Cycle: make([]int, many), Refs: 1, Delay: delay}
						switch kind {
						case 0:
							asksSps(t, s, many == 0 && step == 0)
						case 1:
							asksSps(t, s, many <= 4 && bits == 4)
						case 2:
							asksSps(t, s, many == 0 && step == 0 && bits == 4 && delay == 0)
						default:
							asksSps(t, s, false)
						}
					}
				}
			}
		}
	}
}

// P3.1: a Cycle of any size, each number at its ends and beyond, at each place.
func TestCycles(t *testing.T) {
	for many := range 7 {
		s := cycled()
		s.Cycle = make([]int, many)
		asksSps(t, s, many <= 4)
		for i := range many {
			for _, x := range []int{-1000, 1000} {
				s.Cycle[i] = x
				asksSps(t, s, many <= 4)
			}
			for _, x := range []int{-1001, 1001} {
				s.Cycle[i] = x
				asksSps(t, s, false)
			}
			s.Cycle[i] = 0
		}
	}
	s := cycled()
	s.Cycle = make([]int, 1<<20)
	asksSps(t, s, false)
}

// An empty list and nil are one.
func TestEmptyCycleIsNone(t *testing.T) {
	for _, from := range []func() api.Sps{counted, cycled, unordered} {
		s := from()
		s.Cycle = nil
		none, _ := params.PutSps(s)
		s.Cycle = make([]int, 0, 4)
		asksSps(t, s, true)
		if x, _ := params.PutSps(s); x != none {
			t.Errorf("P3.2: %q of an empty Cycle, %q of none", x, none)
		}
	}
}

// P3.1: of nothing set there are no parameters.
func TestNothingSet(t *testing.T) {
	asksSps(t, api.Sps{}, false)
	asksPps(t, api.Pps{}, false)
}

// P3.1: each range of a Pps, one number at a time.
func TestPpsRanges(t *testing.T) {
	for _, c := range []struct {
		field       func(p *api.Pps) *int
		least, most int
	}{
		{func(p *api.Pps) *int { return &p.BiPred }, 0, 2},
		{func(p *api.Pps) *int { return &p.Qp }, 0, 51},
		{func(p *api.Pps) *int { return &p.ChromaQp }, -12, 12},
		{func(p *api.Pps) *int { return &p.Active0 }, 1, 8},
		{func(p *api.Pps) *int { return &p.Active1 }, 1, 8},
	} {
		for _, x := range around(c.least, c.most) {
			p := anyPps()
			*c.field(&p) = x
			asksPps(t, p, x >= c.least && x <= c.most)
		}
	}
}

// P3.1: each of a Pps's flags may be set or not.
func TestPpsFlags(t *testing.T) {
	for i := range 16 {
		p := anyPps()
		p.Cabac, p.Weighted, p.Constrained, p.Deblock = i&1 > 0, i&2 > 0, i&4 > 0, i&8 > 0
		asksPps(t, p, true)
	}
}

// P3.1: any that may be, and what a number beyond its range makes of it.
func TestAnyParams(t *testing.T) {
	c := chance{3}
	for range 5000 {
		asksSps(t, c.sps(), true)
		asksPps(t, c.pps(), true)
		s, p := c.sps(), c.pps()
		for _, x := range []*int{&s.Wide, &s.High, &s.FrameBits, &s.PocType, &s.PocBits, &s.NonRef, &s.Refs, &s.Delay,
			&p.BiPred, &p.Qp, &p.ChromaQp, &p.Active0, &p.Active1} {
			if c.Below(12) == 0 {
				*x = c.From(-1, 10) * c.From(1, 110)
			}
		}
		asksSps(t, s, wantSps(s))
		asksPps(t, p, wantPps(p))
	}
}
