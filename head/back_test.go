package head_test

import (
	"slices"
	"sync"
	"testing"

	"zoetrope/api"
	"zoetrope/bits"
	"zoetrope/dice"
	"zoetrope/digits"
	"zoetrope/head"
)

// back tells whether a header, written behind some bits and with some behind
// it, is read as it was.
func back(h api.Head, u unit, ahead int) bool {
	w := bits.New()
	w.Bits(0, ahead)
	code := head.Put(w, h, u.s, u.p, u.ref, u.key)
	end := w.Len()
	w.Bits(5, 3)
	r := bits.Open(w.Bytes())
	r.Bits(ahead)
	got, gotCode := head.Get(r, u.s, u.p, u.ref, u.key)
	mark, _ := r.Bits(3)
	return code == api.OK && gotCode == api.OK && shown(got) == shown(h) && r.At() == end+3 && mark == 5
}

// P4.3: any headers of any parameters.
func TestAnyBack(t *testing.T) {
	c := chance{7}
	for range 20000 {
		u := c.unit()
		if h := c.head(u); !back(h, u, c.Below(33)) {
			t.Fatalf("P4.3: %s of %+v", shown(h), u)
		}
	}
}

// P4.3: every number of each field.
func TestEveryNumberBack(t *testing.T) {
	for _, c := range []struct {
		from        func() base
		field       func(h *api.Head) *int
		least, most int
	}{
		{ofKey, func(h *api.Head) *int { return &h.First }, 0, 3},
		{ofKey, func(h *api.Head) *int { return &h.Count }, 1, 10},
		{ofKey, func(h *api.Head) *int { return &h.Id }, 0, 255},
		{ofKey, func(h *api.Head) *int { return &h.Poc }, 0, 63},
		{ofKey, func(h *api.Head) *int { return &h.Qp }, 0, 51},
		{ofKey, func(h *api.Head) *int { return &h.A }, -6, 6},
		{ofKey, func(h *api.Head) *int { return &h.B }, -6, 6},
		{ofI, func(h *api.Head) *int { return &h.FrameNum }, 0, 31},
		{ofI, func(h *api.Head) *int { return &h.Ops[0].A }, 0, 255},
		{ofI, func(h *api.Head) *int { return &h.Ops[1].A }, 0, 255},
		{ofI, func(h *api.Head) *int { return &h.Ops[2].A }, 0, 255},
		{ofI, func(h *api.Head) *int { return &h.Ops[2].B }, 0, 255},
		{ofI, func(h *api.Head) *int { return &h.Ops[3].A }, 0, 255},
		{ofI, func(h *api.Head) *int { return &h.Ops[5].A }, 0, 255},
		{ofP, func(h *api.Head) *int { return &h.Mods0[1].Kind }, 0, 2},
		{ofP, func(h *api.Head) *int { return &h.Mods0[1].V }, 0, 255},
		{ofP, func(h *api.Head) *int { return &h.Log }, 0, 7},
		{ofP, func(h *api.Head) *int { return &h.LogC }, 0, 7},
		{ofP, func(h *api.Head) *int { return &h.Weights0[1].Scale[2] }, -128, 127},
		{ofP, func(h *api.Head) *int { return &h.Weights0[0].Offset[0] }, -128, 127},
		{ofB, func(h *api.Head) *int { return &h.Mods1[2].V }, 0, 255},
		{ofB, func(h *api.Head) *int { return &h.Weights1[1].Scale[0] }, -128, 127},
		{ofB, func(h *api.Head) *int { return &h.Weights1[0].Offset[2] }, -128, 127},
	} {
		for x := c.least; x <= c.most; x++ {
			b := c.from()
			*c.field(&b.h) = x
			if !back(b.h, b.u, x&7) {
				t.Fatalf("P4.3: %d: %s", x, shown(b.h))
			}
		}
	}
}

// asksAny holds Get of any bits against the model, and writes again what was read.
func asksAny(t *testing.T, row string, u unit) {
	t.Helper()
	asksModel(t, row, u)
	h, used, code := readHead(digits.Spread(digits.Packed(row)), u)
	if code != api.OK {
		return
	}
	w := bits.New()
	if again := head.Put(w, h, u.s, u.p, u.ref, u.key); again != api.OK || w.Len() != used || w.Bytes() != digits.Packed(digits.Spread(digits.Packed(row))[:used]) {
		t.Fatalf("P4.3: %d, %s of what was read of %s", again, digits.Spread(w.Bytes()), row)
	}
}

// P4.2, P4.3: all texts of two bytes, of the smallest headers' parameters.
func TestEveryShortText(t *testing.T) {
	c := chance{8}
	units := make([]unit, 16)
	for i := range units {
		units[i] = c.unit()
		units[i].s.FrameBits, units[i].s.PocType, units[i].s.PocBits = 4, i%3, 4
		units[i].ref, units[i].key = i&1, i&2 > 0
	}
	for x := range 1 << 16 {
		asksAny(t, digits.Plain(x, 16), units[x%16])
	}
}

// P4.2, P4.3: any bits, and headers' bits with one turned or left out.
func TestAnyBits(t *testing.T) {
	c := chance{9}
	for range 10000 {
		u := c.unit()
		asksAny(t, digits.Spread(c.text(20)), u)
		row := []byte(joined(pieces(c.head(u), u)))
		asksAny(t, string(row), c.unit())
		k := c.Below(len(row))
		asksAny(t, string(slices.Delete(slices.Clone(row), k, k+1)), u)
		row[k] ^= 1
		asksAny(t, string(row), u)
	}
}

// P4.2, P4.3: any small numbers by their codes.
func TestAnyNumbers(t *testing.T) {
	c := chance{10}
	for range 20000 {
		u := c.unit()
		h := c.head(u)
		c.spoil(&h)
		row := digits.Ue(c.Below(9), c.Below(9), c.Below(4))
		for range c.Below(40) {
			row += digits.Ue(c.Below(1 << c.Below(10)))
		}
		asksAny(t, row, u)
	}
}

// R4, P4.2: numbers that were handed in stay as they were, with their spare room.
func TestHandedInIsLeftAlone(t *testing.T) {
	c := chance{12}
	for range 500 {
		u := c.unit()
		u.key, u.ref, u.p.Weighted, u.p.BiPred = false, 1, true, 1
		h := c.head(u)
		mods := [2][]api.Mod{append(h.Mods0, api.Mod{Kind: 7, V: 7}), append(h.Mods1, api.Mod{Kind: 8, V: 8})}
		ops := append(h.Ops, api.Op{Kind: 9, A: 9, B: 9})
		weights := [2][]api.Weight{append(h.Weights0, weight(50)), append(h.Weights1, weight(60))}
		h.Mods0, h.Mods1 = mods[0][:len(h.Mods0)], mods[1][:len(h.Mods1)]
		h.Ops = ops[:len(h.Ops)]
		h.Weights0, h.Weights1 = weights[0][:len(h.Weights0)], weights[1][:len(h.Weights1)]
		kept := [2][]api.Mod{slices.Clone(mods[0]), slices.Clone(mods[1])}
		keptOps := slices.Clone(ops)
		keptWeights := [2][]api.Weight{slices.Clone(weights[0]), slices.Clone(weights[1])}
		if !back(h, u, 0) || !head.May(h, u.s, u.p, u.ref, u.key) {
			t.Fatalf("P4.3: %s", shown(h))
		}
		same := slices.Equal(ops, keptOps)
		for i := range 2 {
			same = same && slices.Equal(mods[i], kept[i]) && slices.Equal(weights[i], keptWeights[i])
		}
		if !same {
			t.Fatalf("R4: %s", shown(h))
		}
	}
}

// R4: what was written stays, whatever becomes of the header.
func TestWrittenStays(t *testing.T) {
	for _, from := range sorts {
		b := from()
		row := joined(pieces(b.h, b.u))
		w := bits.New()
		head.Put(w, b.h, b.u.s, b.u.p, b.u.ref, b.u.key)
		overwrite(&b.h)
		if w.Bytes() != digits.Packed(row) {
			t.Errorf("R4: %s", digits.Spread(w.Bytes()))
		}
	}
}

// overwrite makes other numbers of all lists of h, and of their spare room.
func overwrite(h *api.Head) {
	for _, mods := range [][]api.Mod{h.Mods0, h.Mods1} {
		for i := range mods[:cap(mods)] {
			mods[:cap(mods)][i] = api.Mod{Kind: 77, V: 77}
		}
	}
	for _, ws := range [][]api.Weight{h.Weights0, h.Weights1} {
		for i := range ws[:cap(ws)] {
			ws[:cap(ws)][i] = weight(77)
		}
	}
	for i := range h.Ops[:cap(h.Ops)] {
		h.Ops[:cap(h.Ops)][i] = api.Op{Kind: 77, A: 77, B: 77}
	}
}

// R4, R5: an answer is one's own: what is done to it no other answer shows, nor
// a later one; and no two lists of one answer share any.
func TestAnswersAreNewMemory(t *testing.T) {
	c := chance{13}
	for range 500 {
		u := c.unit()
		h := c.head(u)
		s := digits.Packed(joined(pieces(h, u)))
		read := func() api.Head {
			got, _ := head.Get(bits.Open(s), u.s, u.p, u.ref, u.key)
			return got
		}
		first, other := read(), read()
		overwrite(&first)
		if shown(other) != shown(h) || shown(read()) != shown(h) {
			t.Fatalf("R4: %s, %s", shown(other), shown(h))
		}
		_ = append(other.Mods0, api.Mod{Kind: 5})
		_ = append(other.Weights0, weight(9))
		for i := range other.Mods0[:cap(other.Mods0)] {
			other.Mods0[:cap(other.Mods0)][i] = api.Mod{Kind: 88}
		}
		for i := range other.Weights0[:cap(other.Weights0)] {
			other.Weights0[:cap(other.Weights0)][i] = weight(88)
		}
		if !slices.Equal(other.Mods1, h.Mods1) || !slices.Equal(other.Weights1, h.Weights1) {
			t.Fatalf("R4: %s, %s", shown(other), shown(h))
		}
	}
}

// R5: beside an error a Reader goes on as if nothing had been asked of it, a
// Writer too.
func TestErrorsLeaveNothingBehind(t *testing.T) {
	b := ofB()
	row := joined(pieces(b.h, b.u))
	r := bits.Open(digits.Packed("110" + row))
	r.Bits(3)
	bad := b.u
	bad.s.FrameBits, bad.p.Weighted = 8, false
	for _, u := range []unit{bad, {s: b.u.s, p: b.u.p, ref: 9}, {s: b.u.s, p: b.u.p, key: true}} {
		if _, code := head.Get(r, u.s, u.p, u.ref, u.key); code == api.OK || r.At() != 3 {
			t.Errorf("R5: %d, at %d", code, r.At())
		}
	}
	if h, code := head.Get(r, b.u.s, b.u.p, b.u.ref, b.u.key); code != api.OK || shown(h) != shown(b.h) || r.At() != 3+len(row) {
		t.Errorf("R5: %s, %d", shown(h), code)
	}
	w := bits.New()
	w.Bits(6, 3)
	wrong := ofB()
	wrong.h.B = 9
	if code := head.Put(w, wrong.h, b.u.s, b.u.p, b.u.ref, b.u.key); code != api.ErrHeadRange || w.Len() != 3 {
		t.Errorf("R5: %d, %d bits", code, w.Len())
	}
	head.Put(w, b.h, b.u.s, b.u.p, b.u.ref, b.u.key)
	if w.Bytes() != digits.Packed("110"+row) {
		t.Errorf("R5: %s", digits.Spread(w.Bytes()))
	}
}

// P4.3: headers one behind another, of one Writer and one Reader.
func TestRowsOfHeads(t *testing.T) {
	c := chance{14}
	for range 200 {
		w := bits.New()
		units, heads := make([]unit, 20), make([]api.Head, 20)
		for i := range units {
			units[i] = c.unit()
			heads[i] = c.head(units[i])
			head.Put(w, heads[i], units[i].s, units[i].p, units[i].ref, units[i].key)
		}
		r := bits.Open(w.Bytes())
		for i, u := range units {
			if h, code := head.Get(r, u.s, u.p, u.ref, u.key); code != api.OK || shown(h) != shown(heads[i]) {
				t.Fatalf("P4.3: row %d: %d, %s, want %s", i, code, shown(h), shown(heads[i]))
			}
		}
		if r.At() != w.Len() {
			t.Fatalf("P4.3: at %d of %d", r.At(), w.Len())
		}
	}
}

// R5: calls at one time, of several goroutines, of one header and of several.
func TestCallsAtOneTime(t *testing.T) {
	shared := ofB()
	var all sync.WaitGroup
	var good [8]bool
	for k := range good {
		all.Go(func() {
			c := chance{dice.Dice(k)}
			for range 300 {
				if u := c.unit(); !back(c.head(u), u, 0) || !back(shared.h, shared.u, k) {
					return
				}
			}
			good[k] = true
		})
	}
	all.Wait()
	for k, ok := range good {
		if !ok {
			t.Errorf("R5: %d", k)
		}
	}
}
