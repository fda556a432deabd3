package head_test

import (
	"fmt"
	"slices"

	"zoetrope/api"
	"zoetrope/digits"
)

// The model writes and reads headers as a text of '0' and '1', by the words of
// chapters 1 and 4 alone.

// unit is what a header hangs on.
type unit struct {
	s   api.Sps
	p   api.Pps
	ref int
	key bool
}

// piece is a number as it is written: how, and its bits.
type piece struct {
	way  string // "ue", "se" or "bits"
	text string
}

// pieces: what is written of h, whatever its numbers are.
func pieces(h api.Head, u unit) []piece {
	var row []piece
	put := func(way, text string) { row = append(row, piece{way, text}) }
	put("ue", digits.Ue(h.First))
	put("ue", digits.Ue(h.Count-1))
	put("ue", digits.Ue(h.Type))
	put("bits", digits.Plain(h.FrameNum, u.s.FrameBits))
	if u.key {
		put("ue", digits.Ue(h.Id))
	}
	if u.s.PocType == 0 {
		put("bits", digits.Plain(h.Poc, u.s.PocBits))
	}
	switch h.Type {
	case api.SliceP:
		put("ue", digits.Ue(h.Active0-1))
	case api.SliceB:
		put("bits", digits.Flag(h.Spatial))
		put("ue", digits.Ue(h.Active0-1))
		put("ue", digits.Ue(h.Active1-1))
	}
	for i, mods := range [][]api.Mod{h.Mods0, h.Mods1} {
		if i == 0 && h.Type == api.SliceP || h.Type == api.SliceB {
			put("ue", digits.Ue(len(mods)))
			for _, m := range mods {
				put("ue", digits.Ue(m.Kind))
				put("ue", digits.Ue(m.V))
			}
		}
	}
	if weighted(h.Type, u.p) {
		put("ue", digits.Ue(h.Log))
		put("ue", digits.Ue(h.LogC))
		for _, w := range slices.Concat(h.Weights0, h.Weights1) {
			for i := range 3 {
				put("se", digits.Se(w.Scale[i]))
				put("se", digits.Se(w.Offset[i]))
			}
		}
	}
	if u.ref > 0 && u.key {
		put("bits", digits.Flag(h.LongKey))
	}
	if u.ref > 0 && !u.key {
		put("ue", digits.Ue(len(h.Ops)))
		for _, o := range h.Ops {
			put("ue", digits.Ue(o.Kind))
			if a, b := has(o.Kind); b {
				put("ue", digits.Ue(o.A))
				put("ue", digits.Ue(o.B))
			} else if a {
				put("ue", digits.Ue(o.A))
			}
		}
	}
	put("ue", digits.Ue(h.Qp))
	if u.p.Deblock {
		put("bits", digits.Flag(h.Off))
		if !h.Off {
			put("se", digits.Se(h.A))
			put("se", digits.Se(h.B))
		}
	}
	return row
}

// joined: the bits of pieces.
func joined(row []piece) string {
	text := ""
	for _, p := range row {
		text += p.text
	}
	return text
}

// weighted: are there weights of a slice of that type?
func weighted(kind int, p api.Pps) bool {
	return kind == api.SliceP && p.Weighted || kind == api.SliceB && p.BiPred == 1
}

// has: has an Op of that kind an A, and a B?
func has(kind int) (bool, bool) {
	return slices.Contains([]int{1, 2, 3, 4, 6}, kind), kind == 3
}

// within tells if each of xs is from a to b.
func within(a, b int, xs ...int) bool {
	return len(xs) == 0 || slices.Min(xs) >= a && slices.Max(xs) <= b
}

// wantUnit: may there be headers of u? (Its Sps and Pps are one of those that
// the tests make, or have a number that is none.)
func wantUnit(u unit) bool {
	s := u.s
	return within(1, 8, s.Wide, s.High, s.Refs) && within(4, 8, s.FrameBits, s.PocBits) && within(0, 2, s.PocType) &&
		within(0, 51, u.p.Qp) && within(1, 8, u.p.Active0, u.p.Active1) && within(0, 2, u.p.BiPred) && within(0, 3, u.ref)
}

// wantMay: may h be?
func wantMay(h api.Head, u unit) bool {
	if !wantUnit(u) || !within(0, 64, h.First) || !within(1, 64, h.Count) || h.First+h.Count > u.s.Wide*u.s.High {
		return false
	}
	if u.key && (h.Type != api.SliceI || h.FrameNum != 0 || len(h.Ops) != 0) {
		return false
	}
	if !u.key && (h.Id != 0 || h.LongKey) || u.ref == 0 && (h.LongKey || len(h.Ops) != 0) {
		return false
	}
	if u.s.PocType != 0 && h.Poc != 0 || !within(0, 1<<u.s.PocBits-1, h.Poc) {
		return false
	}
	return within(0, 1<<u.s.FrameBits-1, h.FrameNum) && within(0, 255, h.Id) && within(0, 51, h.Qp) &&
		wantLists(h) && wantWeights(h, u.p) && wantOps(h.Ops) && wantEdges(h, u.p)
}

// wantLists: may its lists of references be?
func wantLists(h api.Head) bool {
	switch h.Type {
	case api.SliceI:
		return !h.Spatial && h.Active0 == 0 && h.Active1 == 0 && len(h.Mods0) == 0 && len(h.Mods1) == 0
	case api.SliceP:
		return !h.Spatial && within(1, 8, h.Active0) && h.Active1 == 0 && wantMods(h.Mods0) && len(h.Mods1) == 0
	case api.SliceB:
		return within(1, 8, h.Active0, h.Active1) && wantMods(h.Mods0) && wantMods(h.Mods1)
	}
	return false
}

func wantMods(mods []api.Mod) bool {
	for _, m := range mods {
		if !within(0, 2, m.Kind) || !within(0, 255, m.V) {
			return false
		}
	}
	return len(mods) <= 16
}

func wantWeights(h api.Head, p api.Pps) bool {
	if !weighted(h.Type, p) {
		return h.Log == 0 && h.LogC == 0 && len(h.Weights0) == 0 && len(h.Weights1) == 0
	}
	for _, w := range slices.Concat(h.Weights0, h.Weights1) {
		if !within(-128, 127, w.Scale[:]...) || !within(-128, 127, w.Offset[:]...) {
			return false
		}
	}
	return within(0, 7, h.Log, h.LogC) && len(h.Weights0) == h.Active0 && len(h.Weights1) == h.Active1
}

func wantOps(ops []api.Op) bool {
	for _, o := range ops {
		a, b := has(o.Kind)
		if !within(1, 6, o.Kind) || !within(0, 255, o.A, o.B) || !a && o.A != 0 || !b && o.B != 0 {
			return false
		}
	}
	return len(ops) <= 16
}

func wantEdges(h api.Head, p api.Pps) bool {
	if !p.Deblock {
		return !h.Off && h.A == 0 && h.B == 0
	}
	return h.Off && h.A == 0 && h.B == 0 || !h.Off && within(-6, 6, h.A, h.B)
}

// left is what is left of a row. What isn't there is thrown.
type left struct {
	digits.Left
}

func (l *left) plain(n int) int { return l.there(l.Plain(n)) }
func (l *left) ue() int         { return l.there(l.Ue()) }
func (l *left) se() int         { return l.there(l.Se()) }

func (l *left) there(x int) int {
	if l.Code != api.OK {
		panic(api.ErrHeadForm)
	}
	return x
}

// upTo holds x against what is told at once.
func upTo(x, least, most int) int {
	if x < least || x > most {
		panic(api.ErrHeadRange)
	}
	return x
}

// readHead: what Get is asked to answer, and how many bits are behind it.
func readHead(row string, u unit) (h api.Head, used int, code api.Errno) {
	l := &left{digits.Left{Row: row}}
	defer func() {
		if fault, is := recover().(api.Errno); is {
			h, used, code = api.Head{}, 0, fault
		}
	}()
	if !wantUnit(u) {
		panic(api.ErrHeadRange)
	}
	readStart(l, &h, u)
	readLists(l, &h, u)
	if u.ref > 0 && u.key {
		h.LongKey = l.plain(1) == 1
	}
	if u.ref > 0 && !u.key {
		for range upTo(l.ue(), 0, 16) {
			o := api.Op{Kind: upTo(l.ue(), 1, 6)}
			if a, _ := has(o.Kind); a {
				o.A = l.ue()
			}
			if _, b := has(o.Kind); b {
				o.B = l.ue()
			}
			h.Ops = append(h.Ops, o)
		}
	}
	h.Qp = l.ue()
	h.Off = u.p.Deblock && l.plain(1) == 1
	if u.p.Deblock && !h.Off {
		h.A, h.B = l.se(), l.se()
	}
	if !wantMay(h, u) {
		panic(api.ErrHeadRange)
	}
	return h, len(row) - len(l.Row), api.OK
}

func readStart(l *left, h *api.Head, u unit) {
	h.First, h.Count, h.Type = l.ue(), l.ue()+1, upTo(l.ue(), 0, 2)
	h.FrameNum = l.plain(u.s.FrameBits)
	if u.key {
		h.Id = l.ue()
	}
	if u.s.PocType == 0 {
		h.Poc = l.plain(u.s.PocBits)
	}
}

func readLists(l *left, h *api.Head, u unit) {
	switch h.Type {
	case api.SliceP:
		h.Active0 = upTo(l.ue()+1, 1, 8)
		h.Mods0 = readMods(l)
	case api.SliceB:
		h.Spatial = l.plain(1) == 1
		h.Active0, h.Active1 = l.ue()+1, l.ue()+1
		upTo(max(h.Active0, h.Active1), 1, 8)
		h.Mods0 = readMods(l)
		h.Mods1 = readMods(l)
	}
	if weighted(h.Type, u.p) {
		h.Log, h.LogC = l.ue(), l.ue()
		for i := range h.Active0 + h.Active1 {
			var w api.Weight
			for k := range 3 {
				w.Scale[k], w.Offset[k] = l.se(), l.se()
			}
			if i < h.Active0 {
				h.Weights0 = append(h.Weights0, w)
			} else {
				h.Weights1 = append(h.Weights1, w)
			}
		}
	}
}

func readMods(l *left) []api.Mod {
	var mods []api.Mod
	for range upTo(l.ue(), 0, 16) {
		mods = append(mods, api.Mod{Kind: l.ue(), V: l.ue()})
	}
	return mods
}

// shown: h in digits. No list and an empty one are one.
func shown(h api.Head) string {
	return fmt.Sprintf("%+v", h)
}
