package head_test

import (
	"fmt"
	"slices"
	"strconv"
	"strings"

	"zoetrope/api"
)

// The model writes and reads headers as a text of '0' and '1', by the words of
// chapters 1 and 4 alone.

const greatestUe = 1<<31 - 2

// tooLong is a number that is none of layer 1's: 31 noughts ahead of its first 1.
var tooLong = strings.Repeat("0", 31) + strings.Repeat("1", 32)

// plain: x as n bits.
func plain(x, n int) string {
	digits := strings.Repeat("0", n) + strconv.FormatInt(int64(x), 2)
	return digits[len(digits)-n:]
}

// ue: x + 1 in digits, ahead of it as many noughts as digits behind its first.
func ue(xs ...int) string {
	row := ""
	for _, x := range xs {
		digits := strconv.FormatInt(int64(x)+1, 2)
		row += strings.Repeat("0", len(digits)-1) + digits
	}
	return row
}

// se: Ue of 2 x - 1 above 0, else of -2 x.
func se(xs ...int) string {
	row := ""
	for _, x := range xs {
		if x > 0 {
			row += ue(2*x - 1)
		} else {
			row += ue(-2 * x)
		}
	}
	return row
}

// flag: a bit.
func flag(on bool) string {
	if on {
		return "1"
	}
	return "0"
}

// packed: bytes of a text of bits, the highest first, with noughts behind.
func packed(row string) string {
	out := make([]byte, (len(row)+7)/8)
	for i := range len(row) {
		if row[i] == '1' {
			out[i/8] |= 0x80 >> (i % 8)
		}
	}
	return string(out)
}

// spread: the text of bits of s.
func spread(s string) string {
	var b strings.Builder
	for i := range len(s) {
		b.WriteString(plain(int(s[i]), 8))
	}
	return b.String()
}

// unit is what a header hangs on.
type unit struct {
	s   api.Sps
	p   api.Pps
	ref int
	key bool
}

// piece is a number as it is written: how, and its bits.
type piece struct {
	way  string // "ue", "se" or "bits"
	text string
}

// pieces: what is written of h, whatever its numbers are.
func pieces(h api.Head, u unit) []piece {
	var row []piece
	put := func(way, text string) { row = append(row, piece{way, text}) }
	put("ue", ue(h.First))
	put("ue", ue(h.Count-1))
	put("ue", ue(h.Type))
	put("bits", plain(h.FrameNum, u.s.FrameBits))
	if u.key {
		put("ue", ue(h.Id))
	}
	if u.s.PocType == 0 {
		put("bits", plain(h.Poc, u.s.PocBits))
	}
	switch h.Type {
	case api.SliceP:
		put("ue", ue(h.Active0-1))
	case api.SliceB:
		put("bits", flag(h.Spatial))
		put("ue", ue(h.Active0-1))
		put("ue", ue(h.Active1-1))
	}
	for i, mods := range [][]api.Mod{h.Mods0, h.Mods1} {
		if i == 0 && h.Type == api.SliceP || h.Type == api.SliceB {
			put("ue", ue(len(mods)))
			for _, m := range mods {
				put("ue", ue(m.Kind))
				put("ue", ue(m.V))
			}
		}
	}
	if weighted(h.Type, u.p) {
		put("ue", ue(h.Log))
		put("ue", ue(h.LogC))
		for _, w := range slices.Concat(h.Weights0, h.Weights1) {
			for i := range 3 {
				put("se", se(w.Scale[i]))
				put("se", se(w.Offset[i]))
			}
		}
	}
	if u.ref > 0 && u.key {
		put("bits", flag(h.LongKey))
	}
	if u.ref > 0 && !u.key {
		put("ue", ue(len(h.Ops)))
		for _, o := range h.Ops {
			put("ue", ue(o.Kind))
			if a, b := has(o.Kind); b {
				put("ue", ue(o.A))
				put("ue", ue(o.B))
			} else if a {
				put("ue", ue(o.A))
			}
		}
	}
	put("ue", ue(h.Qp))
	if u.p.Deblock {
		put("bits", flag(h.Off))
		if !h.Off {
			put("se", se(h.A))
			put("se", se(h.B))
		}
	}
	return row
}

// joined: the bits of pieces.
func joined(row []piece) string {
	text := ""
	for _, p := range row {
		text += p.text
	}
	return text
}

// weighted: are there weights of a slice of that type?
func weighted(kind int, p api.Pps) bool {
	return kind == api.SliceP && p.Weighted || kind == api.SliceB && p.BiPred == 1
}

// has: has an Op of that kind an A, and a B?
func has(kind int) (bool, bool) {
	return slices.Contains([]int{1, 2, 3, 4, 6}, kind), kind == 3
}

// within tells if each of xs is from a to b.
func within(a, b int, xs ...int) bool {
	return len(xs) == 0 || slices.Min(xs) >= a && slices.Max(xs) <= b
}

// wantUnit: may there be headers of u? (Its Sps and Pps are one of those that
// the tests make, or have a number that is none.)
func wantUnit(u unit) bool {
	s := u.s
	return within(1, 8, s.Wide, s.High, s.Refs) && within(4, 8, s.FrameBits, s.PocBits) && within(0, 2, s.PocType) &&
		within(0, 51, u.p.Qp) && within(1, 8, u.p.Active0, u.p.Active1) && within(0, 2, u.p.BiPred) && within(0, 3, u.ref)
}

// wantMay: may h be?
func wantMay(h api.Head, u unit) bool {
	if !wantUnit(u) || !within(0, 64, h.First) || !within(1, 64, h.Count) || h.First+h.Count > u.s.Wide*u.s.High {
		return false
	}
	if u.key && (h.Type != api.SliceI || h.FrameNum != 0 || len(h.Ops) != 0) {
		return false
	}
	if !u.key && (h.Id != 0 || h.LongKey) || u.ref == 0 && (h.LongKey || len(h.Ops) != 0) {
		return false
	}
	if u.s.PocType != 0 && h.Poc != 0 || !within(0, 1<<u.s.PocBits-1, h.Poc) {
		return false
	}
	return within(0, 1<<u.s.FrameBits-1, h.FrameNum) && within(0, 255, h.Id) && within(0, 51, h.Qp) &&
		wantLists(h) && wantWeights(h, u.p) && wantOps(h.Ops) && wantEdges(h, u.p)
}

// wantLists: may its lists of references be?
func wantLists(h api.Head) bool {
	switch h.Type {
	case api.SliceI:
		return !h.Spatial && h.Active0 == 0 && h.Active1 == 0 && len(h.Mods0) == 0 && len(h.Mods1) == 0
	case api.SliceP:
		return !h.Spatial && within(1, 8, h.Active0) && h.Active1 == 0 && wantMods(h.Mods0) && len(h.Mods1) == 0
	case api.SliceB:
		return within(1, 8, h.Active0, h.Active1) && wantMods(h.Mods0) && wantMods(h.Mods1)
	}
	return false
}

func wantMods(mods []api.Mod) bool {
	for _, m := range mods {
		if !within(0, 2, m.Kind) || !within(0, 255, m.V) {
			return false
		}
	}
	return len(mods) <= 16
}

func wantWeights(h api.Head, p api.Pps) bool {
	if !weighted(h.Type, p) {
		return h.Log == 0 && h.LogC == 0 && len(h.Weights0) == 0 && len(h.Weights1) == 0
	}
	for _, w := range slices.Concat(h.Weights0, h.Weights1) {
		if !within(-128, 127, w.Scale[:]...) || !within(-128, 127, w.Offset[:]...) {
			return false
		}
	}
	return within(0, 7, h.Log, h.LogC) && len(h.Weights0) == h.Active0 && len(h.Weights1) == h.Active1
}

func wantOps(ops []api.Op) bool {
	for _, o := range ops {
		a, b := has(o.Kind)
		if !within(1, 6, o.Kind) || !within(0, 255, o.A, o.B) || !a && o.A != 0 || !b && o.B != 0 {
			return false
		}
	}
	return len(ops) <= 16
}

func wantEdges(h api.Head, p api.Pps) bool {
	if !p.Deblock {
		return !h.Off && h.A == 0 && h.B == 0
	}
	return h.Off && h.A == 0 && h.B == 0 || !h.Off && within(-6, 6, h.A, h.B)
}

// left is what is left of a text of bits. What isn't there is thrown.
type left struct {
	row string
}

func (l *left) plain(n int) int {
	if n > len(l.row) {
		panic(api.ErrHeadForm)
	}
	x, _ := strconv.ParseInt("0"+l.row[:n], 2, 64)
	l.row = l.row[n:]
	return int(x)
}

func (l *left) ue() int {
	noughts := len(l.row) - len(strings.TrimLeft(l.row, "0"))
	if noughts > 30 {
		panic(api.ErrHeadForm)
	}
	return l.plain(2*noughts+1) - 1
}

func (l *left) se() int {
	if x := l.ue(); x%2 == 1 {
		return (x + 1) / 2
	} else {
		return -x / 2
	}
}

// upTo holds x against what is told at once.
func upTo(x, least, most int) int {
	if x < least || x > most {
		panic(api.ErrHeadRange)
	}
	return x
}

// readHead: what Get is asked to answer, and how many bits are behind it.
func readHead(row string, u unit) (h api.Head, used int, code api.Errno) {
	l := &left{row}
	defer func() {
		if fault, is := recover().(api.Errno); is {
			h, used, code = api.Head{}, 0, fault
		}
	}()
	if !wantUnit(u) {
		panic(api.ErrHeadRange)
	}
	readStart(l, &h, u)
	readLists(l, &h, u)
	if u.ref > 0 && u.key {
		h.LongKey = l.plain(1) == 1
	}
	if u.ref > 0 && !u.key {
		for range upTo(l.ue(), 0, 16) {
			o := api.Op{Kind: upTo(l.ue(), 1, 6)}
			if a, _ := has(o.Kind); a {
				o.A = l.ue()
			}
			if _, b := has(o.Kind); b {
				o.B = l.ue()
			}
			h.Ops = append(h.Ops, o)
		}
	}
	h.Qp = l.ue()
	h.Off = u.p.Deblock && l.plain(1) == 1
	if u.p.Deblock && !h.Off {
		h.A, h.B = l.se(), l.se()
	}
	if !wantMay(h, u) {
		panic(api.ErrHeadRange)
	}
	return h, len(row) - len(l.row), api.OK
}

func readStart(l *left, h *api.Head, u unit) {
	h.First, h.Count, h.Type = l.ue(), l.ue()+1, upTo(l.ue(), 0, 2)
	h.FrameNum = l.plain(u.s.FrameBits)
	if u.key {
		h.Id = l.ue()
	}
	if u.s.PocType == 0 {
		h.Poc = l.plain(u.s.PocBits)
	}
}

func readLists(l *left, h *api.Head, u unit) {
	switch h.Type {
	case api.SliceP:
		h.Active0 = upTo(l.ue()+1, 1, 8)
		h.Mods0 = readMods(l)
	case api.SliceB:
		h.Spatial = l.plain(1) == 1
		h.Active0, h.Active1 = l.ue()+1, l.ue()+1
		upTo(max(h.Active0, h.Active1), 1, 8)
		h.Mods0 = readMods(l)
		h.Mods1 = readMods(l)
	}
	if weighted(h.Type, u.p) {
		h.Log, h.LogC = l.ue(), l.ue()
		for i := range h.Active0 + h.Active1 {
			var w api.Weight
			for k := range 3 {
				w.Scale[k], w.Offset[k] = l.se(), l.se()
			}
			if i < h.Active0 {
				h.Weights0 = append(h.Weights0, w)
			} else {
				h.Weights1 = append(h.Weights1, w)
			}
		}
	}
}

func readMods(l *left) []api.Mod {
	var mods []api.Mod
	for range upTo(l.ue(), 0, 16) {
		mods = append(mods, api.Mod{Kind: l.ue(), V: l.ue()})
	}
	return mods
}

// shown: h in digits. No list and an empty one are one.
func shown(h api.Head) string {
	return fmt.Sprintf("%+v", h)
}
