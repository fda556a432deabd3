package params_test

import (
	"fmt"
	"slices"
	"strconv"
	"strings"

	"zoetrope/api"
	"zoetrope/dice"
)

// The model writes and reads bits as a text of '0' and '1', by the words of
// chapters 1 and 3 alone.

const greatestUe = 1<<31 - 2

// plain: x as n bits.
func plain(x, n int) string {
	digits := strings.Repeat("0", n) + strconv.FormatInt(int64(x), 2)
	return digits[len(digits)-n:]
}

// ue: x + 1 in digits, ahead of it as many noughts as digits behind its first.
func ue(xs ...int) string {
	row := ""
	for _, x := range xs {
		digits := strconv.FormatInt(int64(x)+1, 2)
		row += strings.Repeat("0", len(digits)-1) + digits
	}
	return row
}

// se: Ue of 2 x - 1 above 0, else of -2 x.
func se(xs ...int) string {
	row := ""
	for _, x := range xs {
		if x > 0 {
			row += ue(2*x - 1)
		} else {
			row += ue(-2 * x)
		}
	}
	return row
}

// flag: a bit.
func flag(on bool) string {
	if on {
		return "1"
	}
	return "0"
}

// packed: bytes of a text of bits, the highest first, with noughts behind.
func packed(row string) string {
	out := make([]byte, (len(row)+7)/8)
	for i := range len(row) {
		if row[i] == '1' {
			out[i/8] |= 0x80 >> (i % 8)
		}
	}
	return string(out)
}

// trailed: bytes of a text of bits with a 1 behind it.
func trailed(row string) string {
	return packed(row + "1")
}

// spread: the text of bits of s.
func spread(s string) string {
	var b strings.Builder
	for i := range len(s) {
		b.WriteString(plain(int(s[i]), 8))
	}
	return b.String()
}

// spsRow: the bits of s ahead of the trail, whatever its numbers are.
func spsRow(s api.Sps) string {
	row := ue(s.Wide-1, s.High-1, s.FrameBits-4, s.PocType)
	if s.PocType == 0 {
		row += ue(s.PocBits - 4)
	}
	if s.PocType == 1 {
		row += se(s.NonRef) + ue(len(s.Cycle)) + se(s.Cycle...)
	}
	return row + ue(s.Refs, s.Delay)
}

// ppsRow: the bits of p ahead of the trail, whatever its numbers are.
func ppsRow(p api.Pps) string {
	return flag(p.Cabac) + flag(p.Weighted) + plain(p.BiPred, 2) + ue(p.Qp) + se(p.ChromaQp) +
		flag(p.Constrained) + flag(p.Deblock) + ue(p.Active0-1, p.Active1-1)
}

// within tells if each of xs is from a to b.
func within(a, b int, xs ...int) bool {
	return len(xs) == 0 || slices.Min(xs) >= a && slices.Max(xs) <= b
}

// wantSps: may s be?
func wantSps(s api.Sps) bool {
	switch s.PocType {
	case 0:
		return spsSizes(s) && s.NonRef == 0 && len(s.Cycle) == 0
	case 1:
		return spsSizes(s) && s.PocBits == 4
	case 2:
		return spsSizes(s) && s.NonRef == 0 && len(s.Cycle) == 0 && s.PocBits == 4 && s.Delay == 0
	}
	return false
}

// spsSizes: is each number of s in its own range?
func spsSizes(s api.Sps) bool {
	return within(1, 8, s.Wide, s.High, s.Refs) && within(4, 8, s.FrameBits, s.PocBits) && len(s.Cycle) <= 4 &&
		within(-1000, 1000, s.NonRef) && within(-1000, 1000, s.Cycle...) && within(0, s.Refs, s.Delay)
}

// wantPps: may p be?
func wantPps(p api.Pps) bool {
	return within(0, 2, p.BiPred) && within(0, 51, p.Qp) && within(-12, 12, p.ChromaQp) && within(1, 8, p.Active0, p.Active1)
}

// left is what is left of a text of bits, and whether something was not there.
type left struct {
	row string
	bad bool
}

func (l *left) plain(n int) int {
	if l.bad || n > len(l.row) {
		l.bad = true
		return 0
	}
	x, _ := strconv.ParseInt(l.row[:n], 2, 64)
	l.row = l.row[n:]
	return int(x)
}

func (l *left) ue() int {
	noughts := len(l.row) - len(strings.TrimLeft(l.row, "0"))
	if l.bad || noughts > 30 || 2*noughts+1 > len(l.row) {
		l.bad = true
		return 0
	}
	return l.plain(2*noughts+1) - 1
}

func (l *left) se() int {
	x := l.ue()
	if x%2 == 1 {
		return (x + 1) / 2
	}
	return -x / 2
}

// ends: are there just a 1 and fewer than 8 noughts?
func (l *left) ends() bool {
	return !l.bad && len(l.row) <= 8 && strings.TrimRight(l.row, "0") == "1"
}

// readSps: what GetSps is asked to answer.
func readSps(x string) (api.Sps, api.Errno) {
	l := &left{row: spread(x)}
	s := api.Sps{Wide: l.ue() + 1, High: l.ue() + 1, FrameBits: l.ue() + 4, PocType: l.ue(), PocBits: 4}
	if s.PocType == 0 {
		s.PocBits = l.ue() + 4
	}
	if s.PocType == 1 {
		s.NonRef = l.se()
		many := l.ue()
		if many > 4 {
			return api.Sps{}, api.ErrParamsRange
		}
		for range many {
			s.Cycle = append(s.Cycle, l.se())
		}
	}
	s.Refs, s.Delay = l.ue(), l.ue()
	if !l.ends() {
		return api.Sps{}, api.ErrParamsForm
	}
	if !wantSps(s) {
		return api.Sps{}, api.ErrParamsRange
	}
	return s, api.OK
}

// readPps: what GetPps is asked to answer.
func readPps(x string) (api.Pps, api.Errno) {
	l := &left{row: spread(x)}
	p := api.Pps{Cabac: l.plain(1) == 1, Weighted: l.plain(1) == 1, BiPred: l.plain(2), Qp: l.ue(), ChromaQp: l.se(),
		Constrained: l.plain(1) == 1, Deblock: l.plain(1) == 1, Active0: l.ue() + 1, Active1: l.ue() + 1}
	if !l.ends() {
		return api.Pps{}, api.ErrParamsForm
	}
	if !wantPps(p) {
		return api.Pps{}, api.ErrParamsRange
	}
	return p, api.OK
}

// shown: s in digits. No Cycle and an empty one are one.
func shown(s api.Sps) string {
	return fmt.Sprintf("%+v", s)
}

// chance is a row of numbers, and what is made of them.
type chance struct{ dice.Dice }

// text: up to most bytes.
func (c *chance) text(most int) string {
	return c.Text(c.Below(most + 1))
}

// sps: any that may be.
func (c *chance) sps() api.Sps {
	s := api.Sps{Wide: c.From(1, 8), High: c.From(1, 8), FrameBits: c.From(4, 8), PocType: c.Below(3), PocBits: 4, Refs: c.From(1, 8)}
	switch s.PocType {
	case 0:
		s.PocBits = c.From(4, 8)
	case 1:
		s.NonRef = c.From(-1000, 1000)
		for range c.Below(5) {
			s.Cycle = append(s.Cycle, c.From(-1000, 1000))
		}
	}
	if s.PocType != 2 {
		s.Delay = c.From(0, s.Refs)
	}
	return s
}

// pps: any that may be.
func (c *chance) pps() api.Pps {
	return api.Pps{Cabac: c.Below(2) == 1, Weighted: c.Below(2) == 1, BiPred: c.Below(3), Qp: c.Below(52), ChromaQp: c.From(-12, 12),
		Constrained: c.Below(2) == 1, Deblock: c.Below(2) == 1, Active0: c.From(1, 8), Active1: c.From(1, 8)}
}
