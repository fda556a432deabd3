package params_test

import (
	"fmt"
	"slices"
	"strings"

	"zoetrope/api"
	"zoetrope/dice"
	"zoetrope/digits"
)

// The model writes and reads bits as a text of '0' and '1', by the words of
// chapters 1 and 3 alone.

// trailed: bytes of a text of bits with a 1 behind it.
func trailed(row string) string {
	return digits.Packed(row + "1")
}

// spsRow: the bits of s ahead of the trail, whatever its numbers are.
func spsRow(s api.Sps) string {
	row := digits.Ue(s.Wide-1, s.High-1, s.FrameBits-4, s.PocType)
	if s.PocType == 0 {
		row += digits.Ue(s.PocBits - 4)
	}
	if s.PocType == 1 {
		row += digits.Se(s.NonRef) + digits.Ue(len(s.Cycle)) + digits.Se(s.Cycle...)
	}
	return row + digits.Ue(s.Refs, s.Delay)
}

// ppsRow: the bits of p ahead of the trail, whatever its numbers are.
func ppsRow(p api.Pps) string {
	return digits.Flag(p.Cabac) + digits.Flag(p.Weighted) + digits.Plain(p.BiPred, 2) + digits.Ue(p.Qp) + digits.Se(p.ChromaQp) +
		digits.Flag(p.Constrained) + digits.Flag(p.Deblock) + digits.Ue(p.Active0-1, p.Active1-1)
}

// within tells if each of xs is from a to b.
func within(a, b int, xs ...int) bool {
	return len(xs) == 0 || slices.Min(xs) >= a && slices.Max(xs) <= b
}

// wantSps: may s be?
func wantSps(s api.Sps) bool {
	switch s.PocType {
	case 0:
		return spsSizes(s) && s.NonRef == 0 && len(s.Cycle) == 0
	case 1:
		return spsSizes(s) && s.PocBits == 4
	case 2:
		return spsSizes(s) && s.NonRef == 0 && len(s.Cycle) == 0 && s.PocBits == 4 && s.Delay == 0
	}
	return false
}

// spsSizes: is each number of s in its own range?
func spsSizes(s api.Sps) bool {
	return within(1, 8, s.Wide, s.High, s.Refs) && within(4, 8, s.FrameBits, s.PocBits) && len(s.Cycle) <= 4 &&
		within(-1000, 1000, s.NonRef) && within(-1000, 1000, s.Cycle...) && within(0, s.Refs, s.Delay)
}

// wantPps: may p be?
func wantPps(p api.Pps) bool {
	return within(0, 2, p.BiPred) && within(0, 51, p.Qp) && within(-12, 12, p.ChromaQp) && within(1, 8, p.Active0, p.Active1)
}

// ends: is all there, and are there just a 1 and fewer than 8 noughts behind it?
func ends(l *digits.Left) bool {
	return l.Code == api.OK && len(l.Row) <= 8 && strings.TrimRight(l.Row, "0") == "1"
}

// readSps: what GetSps is asked to answer.
func readSps(x string) (api.Sps, api.Errno) {
	l := &digits.Left{Row: digits.Spread(x)}
	s := api.Sps{Wide: l.Ue() + 1, High: l.Ue() + 1, FrameBits: l.Ue() + 4, PocType: l.Ue(), PocBits: 4}
	if s.PocType == 0 {
		s.PocBits = l.Ue() + 4
	}
	if s.PocType == 1 {
		s.NonRef = l.Se()
		many := l.Ue()
		if many > 4 {
			return api.Sps{}, api.ErrParamsRange
		}
		for range many {
			s.Cycle = append(s.Cycle, l.Se())
		}
	}
	s.Refs, s.Delay = l.Ue(), l.Ue()
	if !ends(l) {
		return api.Sps{}, api.ErrParamsForm
	}
	if !wantSps(s) {
		return api.Sps{}, api.ErrParamsRange
	}
	return s, api.OK
}

// readPps: what GetPps is asked to answer.
func readPps(x string) (api.Pps, api.Errno) {
	l := &digits.Left{Row: digits.Spread(x)}
	p := api.Pps{Cabac: l.Plain(1) == 1, Weighted: l.Plain(1) == 1, BiPred: l.Plain(2), Qp: l.Ue(), ChromaQp: l.Se(),
		Constrained: l.Plain(1) == 1, Deblock: l.Plain(1) == 1, Active0: l.Ue() + 1, Active1: l.Ue() + 1}
	if !ends(l) {
		return api.Pps{}, api.ErrParamsForm
	}
	if !wantPps(p) {
		return api.Pps{}, api.ErrParamsRange
	}
	return p, api.OK
}

// shown: s in digits. No Cycle and an empty one are one.
func shown(s api.Sps) string {
	return fmt.Sprintf("%+v", s)
}

// chance is a row of numbers, and what is made of them.
type chance struct{ dice.Dice }

// text: up to most bytes.
func (c *chance) text(most int) string {
	return c.Text(c.Below(most + 1))
}

// sps: any that may be.
func (c *chance) sps() api.Sps {
	s := api.Sps{Wide: c.From(1, 8), High: c.From(1, 8), FrameBits: c.From(4, 8), PocType: c.Below(3), PocBits: 4, Refs: c.From(1, 8)}
	switch s.PocType {
	case 0:
		s.PocBits = c.From(4, 8)
	case 1:
		s.NonRef = c.From(-1000, 1000)
		for range c.Below(5) {
			s.Cycle = append(s.Cycle, c.From(-1000, 1000))
		}
	}
	if s.PocType != 2 {
		s.Delay = c.From(0, s.Refs)
	}
	return s
}

// pps: any that may be.
func (c *chance) pps() api.Pps {
	return api.Pps{Cabac: c.Below(2) == 1, Weighted: c.Below(2) == 1, BiPred: c.Below(3), Qp: c.Below(52), ChromaQp: c.From(-12, 12),
		Constrained: c.Below(2) == 1, Deblock: c.Below(2) == 1, Active0: c.From(1, 8), Active1: c.From(1, 8)}
}
