package head_test

import (
	"strings"
	"testing"

	"zoetrope/api"
	"zoetrope/bits"
	"zoetrope/digits"
	"zoetrope/head"
)

// asksGet holds Get, of a Reader that has read some bits of s, against what is
// asked of it: beside an error the Reader is where it was, else it is used bits
// further on.
func asksGet(t *testing.T, s string, at int, u unit, want api.Head, used int, code api.Errno) {
	t.Helper()
	r := bits.Open(s)
	for range at {
		r.Bits(1)
	}
	// Beside an error the second time is as the first.
	for range 2 {
		h, got := head.Get(r, u.s, u.p, u.ref, u.key)
		if shown(h) != shown(want) || got != code || r.At() != at+used {
			t.Fatalf("P4.2: Get of %.300s of %+v:\n%s, %d, at %d, want\n%s, %d, at %d", digits.Spread(s)[at:], u, shown(h), got, r.At(), shown(want), code, at+used)
		}
		if code == api.OK {
			return
		}
	}
}

// asksModel holds Get of a row of bits against the model.
func asksModel(t *testing.T, row string, u unit) {
	t.Helper()
	s := digits.Packed(row)
	want, used, code := readHead(digits.Spread(s), u)
	asksGet(t, s, 0, u, want, used, code)
}

// rows are headers as the chapter writes them, bit by bit.
func rows() []struct {
	b   base
	row string
} {
	small := unit{s: api.Sps{Wide: 2, High: 2, FrameBits: 4, PocType: 2, PocBits: 4, Refs: 1}, p: api.Pps{Active0: 1, Active1: 1}}
	of := func(change func(u *unit)) unit {
		u := small
		change(&u)
		return u
	}
	key := of(func(u *unit) { u.key = true })
	marked := of(func(u *unit) { u.ref, u.p.Deblock, u.s.FrameBits = 1, true, 6 })
	longKey := of(func(u *unit) { u.ref, u.key, u.s.PocType, u.s.PocBits, u.p.Deblock = 3, true, 0, 8, true })
	weighted := of(func(u *unit) { u.p.Weighted, u.p.BiPred = true, 1 })
	return []struct {
		b   base
		row string
	}{
		{base{api.Head{Count: 1, Type: 2}, small}, "1 1 011 0000 1"},
		{base{api.Head{Count: 4, Type: 2, Id: 2, Qp: 5}, key}, "1 00100 011 0000 011 00110"},
		{base{api.Head{First: 1, Count: 2, Type: 2, Id: 255, Poc: 129, LongKey: true, Qp: 51, A: 6, B: -6}, longKey},
			"010 010 011 0000 00000000100000000 10000001 1 00000110100 0 0001100 0001101"},
		{base{api.Head{Count: 1, Type: 2, Off: true}, longKey}, "1 1 011 0000 1 00000000 0 1 1"},
		{base{api.Head{Count: 1, Type: 2, FrameNum: 33, Ops: []api.Op{{Kind: 1, A: 2}, {Kind: 2}, {Kind: 3, A: 1, B: 3}, {Kind: 4, A: 5}, {Kind: 5}, {Kind: 6, A: 4}}, A: -1, B: 1}, marked},
			"1 1 011 100001 00111 010 011 011 1 00100 010 00100 00101 00110 00110 00111 00101 1 0 011 010"},
		{base{api.Head{First: 3, Count: 1, Type: 0, FrameNum: 15, Active0: 8, Mods0: []api.Mod{{Kind: 2, V: 7}, {Kind: 1}}, Qp: 2}, small},
			"00100 1 1 1111 0001000 011 011 0001000 010 1 011"},
		{base{api.Head{Count: 1, Type: 0, Active0: 2, Log: 7, LogC: 1, Weights0: []api.Weight{
			{Scale: [3]int{1, 2, 3}, Offset: [3]int{-1, -2, -3}}, {Scale: [3]int{-128, 127, 0}}}}, weighted},
			"1 1 1 0000 010 1 0001000 010 010 011 00100 00101 00110 00111 00000000100000001 1 000000011111110 1 1 1 1"},
		{base{api.Head{Count: 1, Type: 1, Spatial: true, Active0: 1, Active1: 2, Mods0: []api.Mod{{V: 1}}, Mods1: []api.Mod{{V: 2}, {Kind: 1, V: 3}}}, small},
			"1 1 010 0000 1 1 010 010 1 010 011 1 011 010 00100 1"},
		{base{api.Head{Count: 1, Type: 1, Active0: 2, Active1: 1, Log: 1, LogC: 2, Weights0: []api.Weight{{Scale: [3]int{1}}, {Offset: [3]int{0, 0, 1}}}, Weights1: []api.Weight{{Offset: [3]int{1}}}}, weighted},
			"1 1 010 0000 0 010 1 1 1 010 011 010 1 1 1 1 1 1 1 1 1 1 010 1 010 1 1 1 1 1"},
	}
}

// P4.2: written so, and read so, at each place of a byte, with bits behind.
func TestWrittenHeads(t *testing.T) {
	for _, c := range rows() {
		row := strings.ReplaceAll(c.row, " ", "")
		w := bits.New()
		if code := head.Put(w, c.b.h, c.b.u.s, c.b.u.p, c.b.u.ref, c.b.u.key); code != api.OK || w.Len() != len(row) || w.Bytes() != digits.Packed(row) {
			t.Errorf("P4.2: Put of %s: %d, %s, want %s", shown(c.b.h), code, digits.Spread(w.Bytes()), row)
		}
		for at := range 17 {
			for _, behind := range []string{"", "1", "0", digits.TooLong} {
				s := digits.Packed(strings.Repeat("1", at) + row + behind)
				asksGet(t, s, at, c.b.u, c.b.h, len(row), api.OK)
			}
		}
	}
}

// P4.2: rows that end anywhere, and what the noughts up to a whole byte make
// of them.
func TestCutHeads(t *testing.T) {
	c := chance{5}
	cut := func(b base) {
		row := joined(pieces(b.h, b.u))
		for k := range row {
			asksModel(t, row[:k], b.u)
			asksModel(t, row[:k]+"1", b.u)
		}
		whole := digits.Packed(row)
		for k := range len(row) / 8 {
			asksGet(t, whole[:k], 0, b.u, api.Head{}, 0, api.ErrHeadForm)
		}
	}
	for _, from := range sorts {
		cut(from())
	}
	for range 60 {
		u := c.unit()
		cut(base{c.head(u), u})
	}
}

// P4.2: at the end of each number the bytes end; a number that is none of
// layer 1's in the place of each; nothing is read behind it.
func TestNumbersOfNoForm(t *testing.T) {
	for _, from := range sorts {
		b := from()
		row := pieces(b.h, b.u)
		for i, p := range row {
			ahead, behind := joined(row[:i]), joined(row[i+1:])
			if p.way == "bits" {
				continue
			}
			for _, rest := range []string{"", behind, behind + digits.TooLong, strings.Repeat("0", 99), strings.Repeat("1", 99)} {
				for noughts := 31; noughts < 34; noughts++ {
					s := digits.Packed(ahead + strings.Repeat("0", noughts) + strings.Repeat("1", noughts+1) + rest)
					asksGet(t, s, 0, b.u, api.Head{}, 0, api.ErrHeadForm)
				}
			}
			// So that it ends with a byte, ones stand ahead that are read already.
			lead := (8 - len(ahead)%8) % 8
			asksGet(t, digits.Packed(strings.Repeat("1", lead)+ahead), lead, b.u, api.Head{}, 0, api.ErrHeadForm)
		}
	}
}

// behinds: what may stand behind a number that is told at once.
var behinds = []string{"", "1", strings.Repeat("1", 70), strings.Repeat("10", 300), digits.TooLong, strings.Repeat("0", 900)}

// P4.2, R6: a Type, an Active, a count, an Op's Kind beyond its limit is told
// at once, whatever is behind it; a fault of form ahead of it is told first.
func TestToldAtOnce(t *testing.T) {
	u := parameters()
	key := u
	key.key = true
	plainP := u
	plainP.p.Weighted = false
	start := func(kind int) string { return digits.Ue(0, 0, kind) + digits.Plain(3, 5) + digits.Plain(9, 6) }
	for _, x := range []int{1, 2, 3, 50, 1 << 20, digits.GreatestUe - 17} {
		for i, c := range []struct {
			u     unit
			ahead string
			most  int
		}{
			{u, digits.Ue(0, 0), 2},
			{key, digits.Ue(0, 0), 2},
			{u, digits.Ue(700, 900), 2},
			{u, start(0), 7},
			{plainP, start(0), 7},
			{u, start(0) + digits.Ue(0), 16},
			{u, start(0) + digits.Ue(7), 16},
			{plainP, start(0) + digits.Ue(2, 0), 16},
			{plainP, start(0) + digits.Ue(2, 2, 3, 99999, 7, 0), 16},
			{u, start(1) + "0" + digits.Ue(0), 7},
			{u, start(1) + "1" + digits.Ue(7), 7},
			{u, start(1) + "1" + digits.Ue(0, 0), 16},
			{u, start(1) + "1" + digits.Ue(0, 0, 1, 2, 9), 16},
			{u, start(2), 16},
			{u, start(2) + digits.Ue(1), 6},
			{u, start(2) + digits.Ue(2, 5), 6},
			{u, start(2) + digits.Ue(16, 3, 1000, 1000, 1, 7), 6},
			{plainP, start(0) + digits.Ue(2, 0, 1), 6},
		} {
			for _, behind := range behinds {
				row := c.ahead + digits.Ue(c.most+x)
				if c.most+x > digits.GreatestUe {
					continue
				}
				asksGet(t, digits.Packed(row+behind), 0, c.u, api.Head{}, 0, api.ErrHeadRange)
				if t.Failed() {
					t.Fatalf("row %d", i)
				}
			}
		}
	}
}

// P4.2: an Op's Kind 0 is told at once too.
func TestOpOfKindNone(t *testing.T) {
	u := parameters()
	start := digits.Ue(0, 0, 2) + digits.Plain(3, 5) + digits.Plain(9, 6)
	for _, ops := range []string{digits.Ue(1, 0), digits.Ue(16, 0), digits.Ue(2, 5, 0), digits.Ue(3, 1, 999, 3, 8, 9, 0)} {
		for _, behind := range behinds {
			asksGet(t, digits.Packed(start+ops+behind), 0, u, api.Head{}, 0, api.ErrHeadRange)
		}
	}
}

// P4.2: a pair of Actives is looked at behind both.
func TestPairOfActives(t *testing.T) {
	u := parameters()
	start := digits.Ue(0, 0, 1) + digits.Plain(3, 5) + digits.Plain(9, 6) + "0"
	for _, first := range []int{8, 9, 300, digits.GreatestUe} {
		for _, second := range []int{0, 7, 8, digits.GreatestUe} {
			asksGet(t, digits.Packed(start+digits.Ue(first)+digits.TooLong), 0, u, api.Head{}, 0, api.ErrHeadForm)
			for _, behind := range behinds {
				asksGet(t, digits.Packed(start+digits.Ue(first, second)+behind), 0, u, api.Head{}, 0, api.ErrHeadRange)
				asksGet(t, digits.Packed(start+digits.Ue(second, first)+behind), 0, u, api.Head{}, 0, api.ErrHeadRange)
			}
		}
		row := start + digits.Ue(first)
		lead := (8 - len(row)%8) % 8
		asksGet(t, digits.Packed(strings.Repeat("1", lead)+row), lead, u, api.Head{}, 0, api.ErrHeadForm)
	}
}

// P4.2, R6: what else may not be is told when all is read, so behind a fault of
// form anywhere.
func TestToldAtTheEnd(t *testing.T) {
	for i, c := range []struct {
		from   func() base
		change func(b *base)
	}{
		{ofKey, func(b *base) { b.h.First = 12 }},
		{ofKey, func(b *base) { b.h.First = digits.GreatestUe }},
		{ofKey, func(b *base) { b.h.Count = 11 }},
		{ofKey, func(b *base) { b.h.Count = digits.GreatestUe + 1 }},
		{ofKey, func(b *base) { b.h.FrameNum = 1 }},
		{ofKey, func(b *base) { b.h.Id = 256 }},
		{ofKey, func(b *base) { b.h.Qp = 52 }},
		{ofKey, func(b *base) { b.h.Qp = digits.GreatestUe }},
		{ofKey, func(b *base) { b.h.A = 7 }},
		{ofKey, func(b *base) { b.h.B = -7 }},
		{ofKey, func(b *base) { b.h.B = -digits.GreatestUe / 2 }},
		{ofI, func(b *base) { b.h.Count = 13 }},
		{ofI, func(b *base) { b.h.Ops[0].A = 256 }},
		{ofI, func(b *base) { b.h.Ops[2].A = digits.GreatestUe }},
		{ofI, func(b *base) { b.h.Ops[2].B = 256 }},
		{ofI, func(b *base) { b.h.Ops[5].A = 256 }},
		{ofP, func(b *base) { b.u.key, b.h.Ops = true, nil }},
		{ofP, func(b *base) { b.h.Mods0[0].Kind = 3 }},
		{ofP, func(b *base) { b.h.Mods0[1].V = 256 }},
		{ofP, func(b *base) { b.h.Log = 8 }},
		{ofP, func(b *base) { b.h.LogC = digits.GreatestUe }},
		{ofP, func(b *base) { b.h.Weights0[0].Scale[0] = 128 }},
		{ofP, func(b *base) { b.h.Weights0[1].Offset[2] = -129 }},
		{ofB, func(b *base) { b.u.key = true }},
		{ofB, func(b *base) { b.h.Mods1[2].Kind = digits.GreatestUe }},
		{ofB, func(b *base) { b.h.Mods1[0].V = 256 }},
		{ofB, func(b *base) { b.h.Weights1[1].Scale[1] = -129 }},
		{ofB, func(b *base) { b.h.Weights1[0].Offset[1] = 128 }},
	} {
		b := c.from()
		c.change(&b)
		row := pieces(b.h, b.u)
		whole := joined(row)
		for _, behind := range behinds {
			asksGet(t, digits.Packed(whole+behind), 0, b.u, api.Head{}, 0, api.ErrHeadRange)
		}
		last := row[len(row)-1]
		if last.way == "bits" {
			t.Fatalf("row %d", i)
		}
		ahead := joined(row[:len(row)-1])
		lead := (8 - len(ahead)%8) % 8
		asksGet(t, digits.Packed(ahead+digits.TooLong), 0, b.u, api.Head{}, 0, api.ErrHeadForm)
		asksGet(t, digits.Packed(strings.Repeat("1", lead)+ahead), lead, b.u, api.Head{}, 0, api.ErrHeadForm)
	}
}

// P4.2: numbers just within each limit of what is read are taken.
func TestReadAtLimits(t *testing.T) {
	b := ofI()
	b.h.Ops = make([]api.Op, 16)
	for i := range b.h.Ops {
		b.h.Ops[i] = api.Op{Kind: api.OpToLong, A: 255, B: 255}
	}
	asksModel(t, joined(pieces(b.h, b.u)), b.u)
	asksGet(t, digits.Packed(joined(pieces(b.h, b.u))), 0, b.u, b.h, len(joined(pieces(b.h, b.u))), api.OK)
	b = ofB()
	b.h.Active0, b.h.Active1 = 8, 8
	b.h.Weights0, b.h.Weights1 = make([]api.Weight, 8), make([]api.Weight, 8)
	b.h.Mods0, b.h.Mods1 = make([]api.Mod, 16), make([]api.Mod, 16)
	for i := range 16 {
		b.h.Mods0[i], b.h.Mods1[i] = api.Mod{Kind: 2, V: 255 - i}, api.Mod{Kind: i % 3, V: i}
		b.h.Weights0[i/2], b.h.Weights1[i/2] = weight(i), weight(-i)
	}
	asksGet(t, digits.Packed(joined(pieces(b.h, b.u))), 0, b.u, b.h, len(joined(pieces(b.h, b.u))), api.OK)
}

// P4.2: no byte at all, noughts and ones without end.
func TestNoHead(t *testing.T) {
	c := chance{6}
	for range 200 {
		u := c.unit()
		asksGet(t, "", 0, u, api.Head{}, 0, api.ErrHeadForm)
		asksGet(t, strings.Repeat("\x00", 3), 0, u, api.Head{}, 0, api.ErrHeadForm)
		asksGet(t, strings.Repeat("\x00", 4), 0, u, api.Head{}, 0, api.ErrHeadForm)
		asksModel(t, strings.Repeat("1", 800), u)
	}
	u := parameters()
	r := bits.Open(strings.Repeat("\x00", api.MaxBytes))
	if h, code := head.Get(r, u.s, u.p, u.ref, u.key); shown(h) != shown(api.Head{}) || code != api.ErrHeadForm || r.At() != 0 {
		t.Errorf("P4.2: %d", code)
	}
}
