package head_test

import "zoetrope/api"

// chance is a row of numbers, the same in each run.
type chance uint64

func (c *chance) below(n int) int {
	*c = *c*6364136223846793005 + 1442695040888963407
	return int(uint64(*c) >> 33 % uint64(n))
}

// from: a number from a to b.
func (c *chance) from(a, b int) int {
	return a + c.below(b-a+1)
}

func (c *chance) flag() bool {
	return c.below(2) == 1
}

// text: up to most bytes.
func (c *chance) text(most int) string {
	out := make([]byte, c.below(most+1))
	for i := range out {
		out[i] = byte(c.below(256))
	}
	return string(out)
}

// unit: any that there may be headers of.
func (c *chance) unit() unit {
	u := unit{
		s:   api.Sps{Wide: c.from(1, 8), High: c.from(1, 8), FrameBits: c.from(4, 8), PocType: c.below(3), PocBits: 4, Refs: c.from(1, 8)},
		p:   api.Pps{Cabac: c.flag(), Weighted: c.flag(), BiPred: c.below(3), Qp: c.below(52), ChromaQp: c.from(-12, 12), Deblock: c.flag(), Active0: c.from(1, 8), Active1: c.from(1, 8)},
		ref: c.below(4),
		key: c.below(3) == 0,
	}
	if u.s.PocType == 0 {
		u.s.PocBits = c.from(4, 8)
	}
	return u
}

// head: any that may be of u.
func (c *chance) head(u unit) api.Head {
	all := u.s.Wide * u.s.High
	h := api.Head{First: c.below(all), Type: api.SliceI, Qp: c.below(52)}
	h.Count = c.from(1, all-h.First)
	if u.key {
		h.Id, h.LongKey = c.below(256), u.ref > 0 && c.flag()
	} else {
		h.Type, h.FrameNum = c.below(3), c.below(1<<u.s.FrameBits)
	}
	if u.s.PocType == 0 {
		h.Poc = c.below(1 << u.s.PocBits)
	}
	if h.Type != api.SliceI {
		h.Active0, h.Mods0 = c.from(1, 8), c.mods()
	}
	if h.Type == api.SliceB {
		h.Spatial, h.Active1, h.Mods1 = c.flag(), c.from(1, 8), c.mods()
	}
	if weighted(h.Type, u.p) {
		h.Log, h.LogC = c.below(8), c.below(8)
		h.Weights0, h.Weights1 = c.weights(h.Active0), c.weights(h.Active1)
	}
	if !u.key && u.ref > 0 {
		h.Ops = c.ops()
	}
	if u.p.Deblock {
		if h.Off = c.flag(); !h.Off {
			h.A, h.B = c.from(-6, 6), c.from(-6, 6)
		}
	}
	return h
}

func (c *chance) mods() []api.Mod {
	mods := make([]api.Mod, c.below(17)*c.below(2))
	for i := range mods {
		mods[i] = api.Mod{Kind: c.below(3), V: c.below(256)}
	}
	return mods
}

func (c *chance) weights(n int) []api.Weight {
	ws := make([]api.Weight, n)
	for i := range ws {
		for k := range 3 {
			ws[i].Scale[k], ws[i].Offset[k] = c.from(-128, 127), c.from(-128, 127)
		}
	}
	return ws
}

func (c *chance) ops() []api.Op {
	ops := make([]api.Op, c.below(17)*c.below(2))
	for i := range ops {
		o := api.Op{Kind: c.from(1, 6)}
		a, b := has(o.Kind)
		if a {
			o.A = c.below(256)
		}
		if b {
			o.B = c.below(256)
		}
		ops[i] = o
	}
	return ops
}
