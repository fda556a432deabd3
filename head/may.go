package head

import (
	"zoetrope/api"
	"zoetrope/params"
)

const (
	mostRef    = 3 // of a unit's importance
	mostId     = 255
	mostMod    = 2 // of a Mod's Kind
	mostV      = 255
	mostLog    = 7
	leastScale = -128 // of a weight's offset too
	mostScale  = 127
	mostA      = 255 // of an Op's B too
	mostQp     = 51
	mostEdge   = 6 // of A and B, below 0 and above

	pocWritten = 0 // the PocType that Poc is written of
	biPredSaid = 1 // the BiPred that weights are written of
)

// unit is what a header hangs on: the parameters that hold, and what is known
// of the unit that it stands in.
type unit struct {
	s   api.Sps
	p   api.Pps
	ref int
	key bool
}

// within tells if x is from least to most.
func within(x, least, most int) bool {
	return least <= x && x <= most
}

// limit: the greatest number of a field, 0 if it is not used.
func limit(used bool, most int) int {
	if used {
		return most
	}
	return 0
}

// all tells if each of xs may be.
func all[T any](xs []T, may func(T) bool) bool {
	for _, x := range xs {
		if !may(x) {
			return false
		}
	}
	return true
}

// stands tells if there may be headers at all.
func (u unit) stands() bool {
	return params.MaySps(u.s) && params.MayPps(u.p) && within(u.ref, 0, mostRef)
}

// may tells if h may be, where there may be headers.
func (u unit) may(h api.Head) bool {
	return u.mayBegin(h) &&
		mayRefer(h.Active0, h.Mods0, hasFirst(h)) &&
		mayRefer(h.Active1, h.Mods1, hasSecond(h)) &&
		u.mayWeigh(h) &&
		u.mayMark(h) &&
		u.mayEnd(h)
}

// mayBegin looks at place, type and counters.
func (u unit) mayBegin(h api.Head) bool {
	room := u.s.Wide * u.s.High
	// First is held against room ahead of the rest, so that no sum is too great.
	return within(h.First, 0, room) && within(h.Count, 1, room-h.First) &&
		within(h.Type, api.SliceP, api.SliceI) && (h.Type == api.SliceI || !u.key) &&
		within(h.FrameNum, 0, limit(!u.key, 1<<u.s.FrameBits-1)) &&
		within(h.Id, 0, limit(u.key, mostId)) &&
		within(h.Poc, 0, limit(u.s.PocType == pocWritten, 1<<u.s.PocBits-1)) &&
		(h.Type == api.SliceB || !h.Spatial)
}

// hasFirst tells if h's slice has a first list of references.
func hasFirst(h api.Head) bool {
	return h.Type == api.SliceP || h.Type == api.SliceB
}

// hasSecond tells if it has a second one.
func hasSecond(h api.Head) bool {
	return h.Type == api.SliceB
}

// mayRefer looks at a list of references.
func mayRefer(active int, mods []api.Mod, is bool) bool {
	if !is {
		return active == 0 && len(mods) == 0
	}
	return within(active, 1, api.MaxRefs) && len(mods) <= api.MaxMods && all(mods, mayMod)
}

func mayMod(m api.Mod) bool {
	return within(m.Kind, 0, mostMod) && within(m.V, 0, mostV)
}

// weighs tells if h's slice has weights.
func (u unit) weighs(h api.Head) bool {
	switch h.Type {
	case api.SliceP:
		return u.p.Weighted
	case api.SliceB:
		return u.p.BiPred == biPredSaid
	}
	return false
}

// mayWeigh looks at weights: one for each reference of a list, or none.
func (u unit) mayWeigh(h api.Head) bool {
	is := u.weighs(h)
	return within(h.Log, 0, limit(is, mostLog)) && within(h.LogC, 0, limit(is, mostLog)) &&
		len(h.Weights0) == limit(is, h.Active0) && all(h.Weights0, mayWeight) &&
		len(h.Weights1) == limit(is, h.Active1) && all(h.Weights1, mayWeight)
}

func mayWeight(w api.Weight) bool {
	may := func(x int) bool { return within(x, leastScale, mostScale) }
	return all(w.Scale[:], may) && all(w.Offset[:], may)
}

// mayMark looks at what becomes of references.
func (u unit) mayMark(h api.Head) bool {
	return (!h.LongKey || u.marksKey()) && len(h.Ops) <= limit(u.marksOther(), api.MaxOps) && all(h.Ops, mayOp)
}

// marksKey tells if the picture is a key that is referred to.
func (u unit) marksKey() bool {
	return u.key && u.ref > 0
}

// marksOther tells if it is none, and is referred to.
func (u unit) marksOther() bool {
	return !u.key && u.ref > 0
}

func mayOp(o api.Op) bool {
	a, b := operands(o.Kind)
	return mayKind(o.Kind) && within(o.A, 0, limit(a, mostA)) && within(o.B, 0, limit(b, mostA))
}

// mayKind tells if an Op of that kind may stand in a header.
func mayKind(kind int) bool {
	return within(kind, api.OpShortOut, api.OpThisLong)
}

// operands tells if an Op of that kind has an A and a B.
func operands(kind int) (bool, bool) {
	switch kind {
	case api.OpShortOut, api.OpLongOut, api.OpMaxLong, api.OpThisLong:
		return true, false
	case api.OpToLong:
		return true, true
	}
	return false, false
}

// mayEnd looks at the quantiser and the deblocking.
func (u unit) mayEnd(h api.Head) bool {
	most := limit(u.p.Deblock && !h.Off, mostEdge)
	return within(h.Qp, 0, mostQp) && (u.p.Deblock || !h.Off) && within(h.A, -most, most) && within(h.B, -most, most)
}
