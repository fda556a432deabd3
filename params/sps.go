package params

import (
	"zoetrope/api"
	"zoetrope/bits"
)

const (
	pocWritten = 0 // the PocType that PocBits are written of
	pocCycled  = 1 // the one that NonRef and Cycle are written of
	pocPlain   = 2 // the one in which pictures come out as they come in
	leastBits  = 4 // of FrameBits and PocBits: they are written less these
)

// MaySps tells if s may be.
func MaySps(s api.Sps) bool {
	return new(keeper).maySps(s)
}

// maySps tells if s is within the ranges and fits its PocType.
func (k *keeper) maySps(s api.Sps) bool {
	return k.of(side).holds(s.Wide, s.High) &&
		k.of(counter).holds(s.FrameBits, s.PocBits) &&
		k.of(pocType).holds(s.PocType) &&
		k.of(cycleSize).holds(len(s.Cycle)) &&
		k.of(pocStep).holds(s.NonRef) &&
		k.of(pocStep).holds(s.Cycle...) &&
		k.of(pictures).holds(s.Refs) &&
		span{0, s.Refs}.holds(s.Delay) &&
		fitsPocType(s)
}

// fitsPocType tells if what only another PocType uses is left alone.
func fitsPocType(s api.Sps) bool {
	if s.PocType != pocWritten && s.PocBits != leastBits {
		return false
	}
	if s.PocType != pocCycled && (s.NonRef != 0 || len(s.Cycle) != 0) {
		return false
	}
	return s.PocType != pocPlain || s.Delay == 0
}

// PutSps writes s as bytes. Whatever may be is a number of its code, so that
// no write can fail.
func PutSps(s api.Sps) (string, api.Errno) {
	if !MaySps(s) {
		return "", api.ErrParamsRange
	}
	w := bits.New()
	w.Ue(s.Wide - 1)
	w.Ue(s.High - 1)
	w.Ue(s.FrameBits - leastBits)
	w.Ue(s.PocType)
	switch s.PocType {
	case pocWritten:
		w.Ue(s.PocBits - leastBits)
	case pocCycled:
		putCycle(w, s)
	}
	w.Ue(s.Refs)
	w.Ue(s.Delay)
	w.Trail()
	return w.Bytes(), api.OK
}

// putCycle writes NonRef and Cycle.
func putCycle(w *bits.Writer, s api.Sps) {
	w.Se(s.NonRef)
	w.Ue(len(s.Cycle))
	for _, x := range s.Cycle {
		w.Se(x)
	}
}

// GetSps reads the parameters that PutSps writes as s.
func GetSps(s string) (api.Sps, api.Errno) {
	k := new(keeper)
	r := &reads{from: bits.Open(s)}
	got := api.Sps{PocBits: leastBits}
	got.Wide = r.ue() + 1
	got.High = r.ue() + 1
	got.FrameBits = r.ue() + leastBits
	got.PocType = r.ue()
	switch got.PocType {
	case pocWritten:
		got.PocBits = r.ue() + leastBits
	case pocCycled:
		got.NonRef = r.se()
		n := r.ue()
		// Told ahead of what follows, so that a great n is not read through.
		if !k.of(cycleSize).holds(n) {
			return api.Sps{}, api.ErrParamsRange
		}
		for range n {
			got.Cycle = append(got.Cycle, r.se())
		}
	}
	got.Refs = r.ue()
	got.Delay = r.ue()
	return ended(r, got, k.maySps)
}
