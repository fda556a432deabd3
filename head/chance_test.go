package head_test

import (
	"zoetrope/api"
	"zoetrope/dice"
)

// chance is a row of numbers, and what is made of them.
type chance struct{ dice.Dice }

// text: up to most bytes.
func (c *chance) text(most int) string {
	return c.Text(c.Below(most + 1))
}

// unit: any that there may be headers of.
func (c *chance) unit() unit {
	u := unit{
		s:   api.Sps{Wide: c.From(1, 8), High: c.From(1, 8), FrameBits: c.From(4, 8), PocType: c.Below(3), PocBits: 4, Refs: c.From(1, 8)},
		p:   api.Pps{Cabac: c.Flag(), Weighted: c.Flag(), BiPred: c.Below(3), Qp: c.Below(52), ChromaQp: c.From(-12, 12), Deblock: c.Flag(), Active0: c.From(1, 8), Active1: c.From(1, 8)},
		ref: c.Below(4),
		key: c.Below(3) == 0,
	}
	if u.s.PocType == 0 {
		u.s.PocBits = c.From(4, 8)
	}
	return u
}

// head: any that may be of u.
func (c *chance) head(u unit) api.Head {
	all := u.s.Wide * u.s.High
	h := api.Head{First: c.Below(all), Type: api.SliceI, Qp: c.Below(52)}
	h.Count = c.From(1, all-h.First)
	if u.key {
		h.Id, h.LongKey = c.Below(256), u.ref > 0 && c.Flag()
	} else {
		h.Type, h.FrameNum = c.Below(3), c.Below(1<<u.s.FrameBits)
	}
	if u.s.PocType == 0 {
		h.Poc = c.Below(1 << u.s.PocBits)
	}
	if h.Type != api.SliceI {
		h.Active0, h.Mods0 = c.From(1, 8), c.mods()
	}
	if h.Type == api.SliceB {
		h.Spatial, h.Active1, h.Mods1 = c.Flag(), c.From(1, 8), c.mods()
	}
	if weighted(h.Type, u.p) {
		h.Log, h.LogC = c.Below(8), c.Below(8)
		h.Weights0, h.Weights1 = c.weights(h.Active0), c.weights(h.Active1)
	}
	if !u.key && u.ref > 0 {
		h.Ops = c.ops()
	}
	if u.p.Deblock {
		if h.Off = c.Flag(); !h.Off {
			h.A, h.B = c.From(-6, 6), c.From(-6, 6)
		}
	}
	return h
}

func (c *chance) mods() []api.Mod {
	mods := make([]api.Mod, c.Below(17)*c.Below(2))
	for i := range mods {
		mods[i] = api.Mod{Kind: c.Below(3), V: c.Below(256)}
	}
	return mods
}

func (c *chance) weights(n int) []api.Weight {
	ws := make([]api.Weight, n)
	for i := range ws {
		for k := range 3 {
			ws[i].Scale[k], ws[i].Offset[k] = c.From(-128, 127), c.From(-128, 127)
		}
	}
	return ws
}

func (c *chance) ops() []api.Op {
	ops := make([]api.Op, c.Below(17)*c.Below(2))
	for i := range ops {
		o := api.Op{Kind: c.From(1, 6)}
		a, b := has(o.Kind)
		if a {
			o.A = c.Below(256)
		}
		if b {
			o.B = c.Below(256)
		}
		ops[i] = o
	}
	return ops
}
