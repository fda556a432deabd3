package head

import (
	"zoetrope/api"
	"zoetrope/bits"
)

// way moves a number between its field and bits, one way or the other, and
// tells if it could. What moves to bits leaves its field alone, since others
// may look at it at the same time.
type way interface {
	plain(x *int, n int) bool
	ue(x *int, least int) bool // least is told as 0
	se(x *int) bool
	flag(on *bool) bool
}

// writing: from fields to bits.
type writing struct {
	to *bits.Writer
}

func (g writing) plain(x *int, n int) bool {
	return g.to.Bits(*x, n) == api.OK
}

func (g writing) ue(x *int, least int) bool {
	return g.to.Ue(*x-least) == api.OK
}

func (g writing) se(x *int) bool {
	return g.to.Se(*x) == api.OK
}

func (g writing) flag(on *bool) bool {
	if *on {
		return g.to.Bits(1, 1) == api.OK
	}
	return g.to.Bits(0, 1) == api.OK
}

// reading: from bits to fields.
type reading struct {
	from *bits.Reader
}

func (g reading) plain(x *int, n int) bool {
	told, code := g.from.Bits(n)
	*x = told
	return code == api.OK
}

func (g reading) ue(x *int, least int) bool {
	told, code := g.from.Ue()
	*x = told + least
	return code == api.OK
}

func (g reading) se(x *int) bool {
	told, code := g.from.Se()
	*x = told
	return code == api.OK
}

func (g reading) flag(on *bool) bool {
	told, code := g.from.Bits(1)
	*on = told == 1
	return code == api.OK
}

// walk goes over the fields of a header in their row, the same whichever way
// they go. Behind its first fault nothing moves any more.
type walk struct {
	unit
	way   way
	fault api.Errno
}

// plain: a number of n bits.
func (k *walk) plain(x *int, n int) {
	if k.fault == api.OK && !k.way.plain(x, n) {
		k.fault = api.ErrHeadForm
	}
}

// ue: a number from least on.
func (k *walk) ue(x *int, least int) {
	if k.fault == api.OK && !k.way.ue(x, least) {
		k.fault = api.ErrHeadForm
	}
}

// se: a number below or above 0.
func (k *walk) se(x *int) {
	if k.fault == api.OK && !k.way.se(x) {
		k.fault = api.ErrHeadForm
	}
}

// flag: a bit.
func (k *walk) flag(on *bool) {
	if k.fault == api.OK && !k.way.flag(on) {
		k.fault = api.ErrHeadForm
	}
}

// ask ends the walk, if what came so far may not be.
func (k *walk) ask(may bool) {
	if k.fault == api.OK && !may {
		k.fault = api.ErrHeadRange
	}
}

// list goes over a list of n. One that is read is empty so far.
func list[T any](k *walk, xs *[]T, n int, item func(x *T)) {
	if k.fault != api.OK {
		return
	}
	if len(*xs) < n {
		*xs = make([]T, n)
	}
	for i := range *xs {
		item(&(*xs)[i])
	}
}

// counted goes over a list that tells ahead how many it holds: most of them.
func counted[T any](k *walk, xs *[]T, most int, item func(x *T)) {
	n := len(*xs)
	k.ue(&n, 0)
	k.ask(n <= most)
	list(k, xs, n, item)
}

// head: all of a header.
func (k *walk) head(h *api.Head) {
	k.ue(&h.First, 0)
	k.ue(&h.Count, 1)
	k.ue(&h.Type, 0)
	k.ask(h.Type <= api.SliceI)
	k.plain(&h.FrameNum, k.s.FrameBits)
	if k.key {
		k.ue(&h.Id, 0)
	}
	if k.s.PocType == pocWritten {
		k.plain(&h.Poc, k.s.PocBits)
	}
	k.lists(h)
	if k.weighs(*h) {
		k.weights(h)
	}
	k.marks(h)
	k.ue(&h.Qp, 0)
	if k.p.Deblock {
		k.edges(h)
	}
}

// lists: the references.
func (k *walk) lists(h *api.Head) {
	if hasSecond(*h) {
		k.flag(&h.Spatial)
	}
	if hasFirst(*h) {
		k.ue(&h.Active0, 1)
	}
	if hasSecond(*h) {
		k.ue(&h.Active1, 1)
	}
	k.ask(h.Active0 <= api.MaxRefs && h.Active1 <= api.MaxRefs)
	if hasFirst(*h) {
		counted(k, &h.Mods0, api.MaxMods, k.mod)
	}
	if hasSecond(*h) {
		counted(k, &h.Mods1, api.MaxMods, k.mod)
	}
}

func (k *walk) mod(m *api.Mod) {
	k.ue(&m.Kind, 0)
	k.ue(&m.V, 0)
}

// weights: of each reference, as many as there are.
func (k *walk) weights(h *api.Head) {
	k.ue(&h.Log, 0)
	k.ue(&h.LogC, 0)
	list(k, &h.Weights0, h.Active0, k.weight)
	list(k, &h.Weights1, h.Active1, k.weight)
}

func (k *walk) weight(w *api.Weight) {
	for i := range w.Scale {
		k.se(&w.Scale[i])
		k.se(&w.Offset[i])
	}
}

// marks: what becomes of references.
func (k *walk) marks(h *api.Head) {
	if k.marksKey() {
		k.flag(&h.LongKey)
	}
	if k.marksOther() {
		counted(k, &h.Ops, api.MaxOps, k.op)
	}
}

func (k *walk) op(o *api.Op) {
	k.ue(&o.Kind, 0)
	k.ask(mayKind(o.Kind))
	a, b := operands(o.Kind)
	if a {
		k.ue(&o.A, 0)
	}
	if b {
		k.ue(&o.B, 0)
	}
}

// edges: the deblocking.
func (k *walk) edges(h *api.Head) {
	k.flag(&h.Off)
	if !h.Off {
		k.se(&h.A)
		k.se(&h.B)
	}
}
