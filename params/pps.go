package params

import (
	"zoetrope/api"
	"zoetrope/bits"
)

const biPredBits = 2

// MayPps tells if p may be.
func MayPps(p api.Pps) bool {
	k := new(keeper)
	return k.of(biPred).holds(p.BiPred) &&
		k.of(qp).holds(p.Qp) &&
		k.of(chromaQp).holds(p.ChromaQp) &&
		k.of(pictures).holds(p.Active0, p.Active1)
}

// PutPps writes p as bytes. Whatever may be is a number of its code, so that
// no write can fail.
func PutPps(p api.Pps) (string, api.Errno) {
	if !MayPps(p) {
		return "", api.ErrParamsRange
	}
	w := bits.New()
	putFlag(w, p.Cabac)
	putFlag(w, p.Weighted)
	w.Bits(p.BiPred, biPredBits)
	w.Ue(p.Qp)
	w.Se(p.ChromaQp)
	putFlag(w, p.Constrained)
	putFlag(w, p.Deblock)
	w.Ue(p.Active0 - 1)
	w.Ue(p.Active1 - 1)
	w.Trail()
	return w.Bytes(), api.OK
}

// putFlag writes a bit: 1 of true.
func putFlag(w *bits.Writer, on bool) {
	x := 0
	if on {
		x = 1
	}
	w.Bits(x, 1)
}

// GetPps reads the parameters that PutPps writes as s.
func GetPps(s string) (api.Pps, api.Errno) {
	r := &reads{from: bits.Open(s)}
	var got api.Pps
	got.Cabac = r.flag()
	got.Weighted = r.flag()
	got.BiPred = r.plain(biPredBits)
	got.Qp = r.ue()
	got.ChromaQp = r.se()
	got.Constrained = r.flag()
	got.Deblock = r.flag()
	got.Active0 = r.ue() + 1
	got.Active1 = r.ue() + 1
	return ended(r, got, MayPps)
}
