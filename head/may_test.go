package head_test

import (
	"math"
	"testing"

	"zoetrope/api"
	"zoetrope/bits"
	"zoetrope/digits"
	"zoetrope/head"
)

// asks holds May, and what Put does of it, against what is asked: a Writer that
// holds three bits gets h's bits behind them, or nothing.
func asks(t *testing.T, h api.Head, u unit, want bool) {
	t.Helper()
	if head.May(h, u.s, u.p, u.ref, u.key) != want {
		t.Errorf("P4.1: May of %s of %+v: %v", shown(h), u, !want)
	}
	w := bits.New()
	w.Bits(5, 3)
	row, code := "101", api.ErrHeadRange
	if want {
		row, code = row+joined(pieces(h, u)), api.OK
	}
	if got := head.Put(w, h, u.s, u.p, u.ref, u.key); got != code || w.Len() != len(row) || w.Bytes() != digits.Packed(row) {
		t.Errorf("P4.2: Put of %s of %+v: %d, %s, want %d, %s", shown(h), u, got, digits.Spread(w.Bytes()), code, row)
	}
}

// base is a header that may be, with what it hangs on.
type base struct {
	h api.Head
	u unit
}

func parameters() unit {
	return unit{
		s:   api.Sps{Wide: 4, High: 3, FrameBits: 5, PocType: 0, PocBits: 6, Refs: 4, Delay: 2},
		p:   api.Pps{Weighted: true, BiPred: 1, Qp: 26, Deblock: true, Active0: 1, Active1: 1},
		ref: 2,
	}
}

func weight(x int) api.Weight {
	return api.Weight{Scale: [3]int{x, -x, 3}, Offset: [3]int{-2, x + 1, 1 - x}}
}

// ofKey, ofI, ofP, ofB: a header of each sort, made anew.
func ofKey() base {
	u := parameters()
	u.key = true
	return base{api.Head{First: 2, Count: 9, Type: api.SliceI, Id: 7, Poc: 5, LongKey: true, Qp: 33, A: 1, B: -2}, u}
}

func ofI() base {
	return base{api.Head{Count: 12, Type: api.SliceI, FrameNum: 9, Poc: 5, Qp: 33, A: 1, B: -2,
		Ops: []api.Op{{Kind: 1, A: 2}, {Kind: 2, A: 3}, {Kind: 3, A: 4, B: 5}, {Kind: 4, A: 6}, {Kind: 5}, {Kind: 6, A: 7}}}, parameters()}
}

func ofP() base {
	return base{api.Head{First: 11, Count: 1, Type: api.SliceP, FrameNum: 9, Poc: 5, Active0: 2, Mods0: []api.Mod{{Kind: 0, V: 1}, {Kind: 2, V: 9}},
		Log: 3, LogC: 4, Weights0: []api.Weight{weight(7), weight(-9)}, Ops: []api.Op{{Kind: 5}}, Qp: 33, A: 1, B: -2}, parameters()}
}

func ofB() base {
	return base{api.Head{First: 3, Count: 4, Type: api.SliceB, FrameNum: 9, Poc: 5, Spatial: true, Active0: 3, Active1: 2,
		Mods0: []api.Mod{{Kind: 1, V: 1}}, Mods1: []api.Mod{{Kind: 2, V: 9}, {Kind: 1}, {Kind: 0, V: 4}}, Log: 3, LogC: 4,
		Weights0: []api.Weight{weight(1), weight(2), weight(3)}, Weights1: []api.Weight{weight(4), weight(5)}, Qp: 33, A: 1, B: -2}, parameters()}
}

var sorts = []func() base{ofKey, ofI, ofP, ofB}

// around: every number from least - 3 to most + 3, and those far off, which
// a narrower number or a sum would take for one within.
func around(least, most int) []int {
	row := []int{math.MinInt, math.MinInt + least, math.MinInt32, -1<<32 + least, -1<<16 + least, -1<<8 + least,
		1<<8 + least, 1<<16 + most, math.MaxInt32, 1<<32 + least, 1<<62 + least, math.MaxInt - 1, math.MaxInt}
	for x := least - 3; x <= most+3; x++ {
		row = append(row, x)
	}
	return row
}

// inRange asks of every number around a range that just those within may be.
func inRange(t *testing.T, from func() base, field func(h *api.Head) *int, least, most int) {
	t.Helper()
	for _, x := range around(least, most) {
		b := from()
		*field(&b.h) = x
		asks(t, b.h, b.u, x >= least && x <= most)
	}
}

// P4.1: numbers of every sort of header, one at a time, the others as they may be.
func TestRangesOfAllSorts(t *testing.T) {
	for _, from := range sorts {
		b := from()
		asks(t, b.h, b.u, true)
		inRange(t, from, func(h *api.Head) *int { return &h.First }, 0, 12-b.h.Count)
		inRange(t, from, func(h *api.Head) *int { return &h.Count }, 1, 12-b.h.First)
		inRange(t, from, func(h *api.Head) *int { return &h.Poc }, 0, 63)
		inRange(t, from, func(h *api.Head) *int { return &h.Qp }, 0, 51)
		inRange(t, from, func(h *api.Head) *int { return &h.A }, -6, 6)
		inRange(t, from, func(h *api.Head) *int { return &h.B }, -6, 6)
		inRange(t, from, func(h *api.Head) *int { return &h.Type }, b.h.Type, b.h.Type)
	}
}

// P4.1: numbers that not every sort has: of the others they are 0.
func TestRangesOfOneSort(t *testing.T) {
	for i, from := range sorts {
		b := from()
		most := func(is bool, x int) int {
			if is {
				return x
			}
			return 0
		}
		inRange(t, from, func(h *api.Head) *int { return &h.FrameNum }, 0, most(i != 0, 31))
		inRange(t, from, func(h *api.Head) *int { return &h.Id }, 0, most(i == 0, 255))
		inRange(t, from, func(h *api.Head) *int { return &h.Log }, 0, most(i > 1, 7))
		inRange(t, from, func(h *api.Head) *int { return &h.LogC }, 0, most(i > 1, 7))
		// With weights there are as many of them as Actives.
		inRange(t, from, func(h *api.Head) *int { return &h.Active0 }, b.h.Active0, b.h.Active0)
		inRange(t, from, func(h *api.Head) *int { return &h.Active1 }, b.h.Active1, b.h.Active1)
	}
}

// P4.1: First and Count together, in pictures of every size.
func TestPlaces(t *testing.T) {
	for wide := 1; wide <= 8; wide++ {
		for high := 1; high <= 8; high++ {
			all := wide * high
			for _, first := range []int{math.MinInt, -1, 0, 1, all / 2, all - 1, all, all + 1, math.MaxInt} {
				for _, count := range []int{math.MinInt, -1, 0, 1, all - first, all - first + 1, all, all + 1, math.MaxInt - first, math.MaxInt} {
					b := ofKey()
					b.u.s.Wide, b.u.s.High = wide, high
					b.h.First, b.h.Count = first, count
					asks(t, b.h, b.u, first >= 0 && first < all && count >= 1 && count <= all-first)
				}
			}
		}
	}
}

// P4.1: each Type, with all that a header of any Type may have left out.
func TestTypes(t *testing.T) {
	for _, kind := range []int{math.MinInt, -1, 0, 1, 2, 3, 4, 5, 256, 1 << 32, math.MaxInt} {
		for active0 := range 2 {
			for active1 := range 2 {
				b := ofKey()
				b.u.p.Weighted, b.u.p.BiPred = false, 0
				h := api.Head{Count: 1, Type: kind, Active0: active0, Active1: active1}
				asks(t, h, b.u, kind == api.SliceI && active0+active1 == 0)
				b.u.key = false
				fits := kind == api.SliceI && active0+active1 == 0 || kind == api.SliceP && active0 > active1 || kind == api.SliceB && active0+active1 == 2
				asks(t, h, b.u, fits)
				h.Spatial = true
				asks(t, h, b.u, fits && kind == api.SliceB)
			}
		}
	}
}

// P4.1: counters of each size.
func TestCounters(t *testing.T) {
	for n := 4; n <= 8; n++ {
		for _, x := range []int{-1, 0, 1, 1<<n - 1, 1 << n, 1<<n + 1, 255, 256} {
			for _, from := range []func() base{ofI, ofP, ofB} {
				b := from()
				b.u.s.FrameBits, b.h.FrameNum = n, x
				asks(t, b.h, b.u, x >= 0 && x < 1<<n)
			}
			for pocType := range 3 {
				for _, from := range sorts {
					b := from()
					b.u.s.PocType, b.u.s.PocBits, b.h.Poc = pocType, n, x
					if pocType != 0 {
						b.u.s.PocBits, b.u.s.Delay = 4, 0
					}
					asks(t, b.h, b.u, x == 0 || pocType == 0 && x > 0 && x < 1<<n)
				}
			}
		}
	}
}

// P4.1: Actives of slices without weights, and of those with as many weights.
func TestActives(t *testing.T) {
	for i, from := range sorts {
		for _, weighs := range []bool{false, true} {
			for first := -1; first <= 10; first++ {
				for second := -1; second <= 10; second++ {
					b := from()
					b.h.Active0, b.h.Active1 = first, second
					b.h.Log, b.h.LogC, b.h.Weights0, b.h.Weights1 = 0, 0, nil, nil
					b.u.p.Weighted, b.u.p.BiPred = weighs, 0
					if weighs {
						b.u.p.BiPred = 1
					}
					if weighs && i > 1 {
						b.h.Weights0, b.h.Weights1 = make([]api.Weight, max(first, 0)), make([]api.Weight, max(second, 0))
					}
					switch i {
					case 2:
						asks(t, b.h, b.u, within(1, 8, first) && second == 0)
					case 3:
						asks(t, b.h, b.u, within(1, 8, first, second))
					default:
						asks(t, b.h, b.u, first == 0 && second == 0)
					}
				}
			}
		}
	}
}

// P4.1: lists of no Mod, of as many as may be, of one more, of very many.
func TestHowManyMods(t *testing.T) {
	for i, from := range sorts {
		for _, n := range []int{0, 1, 2, 15, 16, 17, 18, 256, 1 << 16} {
			b := from()
			b.h.Mods0 = make([]api.Mod, n)
			asks(t, b.h, b.u, n == 0 || i > 1 && n <= 16)
			b = from()
			b.h.Mods1 = make([]api.Mod, n)
			asks(t, b.h, b.u, n == 0 || i == 3 && n <= 16)
		}
	}
}

// P4.1: a Mod's numbers, at each place of each list.
func TestMods(t *testing.T) {
	for place := range 16 {
		for _, list := range []func(h *api.Head) *[]api.Mod{
			func(h *api.Head) *[]api.Mod { return &h.Mods0 },
			func(h *api.Head) *[]api.Mod { return &h.Mods1 },
		} {
			from := func() base {
				b := ofB()
				*list(&b.h) = make([]api.Mod, 16)
				return b
			}
			inRange(t, from, func(h *api.Head) *int { return &(*list(h))[place].Kind }, 0, 2)
			inRange(t, from, func(h *api.Head) *int { return &(*list(h))[place].V }, 0, 255)
		}
	}
	inRange(t, ofP, func(h *api.Head) *int { return &h.Mods0[1].Kind }, 0, 2)
	inRange(t, ofP, func(h *api.Head) *int { return &h.Mods0[1].V }, 0, 255)
}

// P4.1: weights are there just where the parameters and the Type ask for them.
func TestWhereWeightsAre(t *testing.T) {
	for _, from := range sorts {
		for i := range 6 {
			for first := range 10 {
				for second := range 10 {
					b := from()
					b.u.p.Weighted, b.u.p.BiPred = i%2 == 1, i/2
					b.h.Log, b.h.LogC = 0, 0
					b.h.Weights0, b.h.Weights1 = make([]api.Weight, first), make([]api.Weight, second)
					if weighted(b.h.Type, b.u.p) {
						asks(t, b.h, b.u, first == b.h.Active0 && second == b.h.Active1)
					} else {
						asks(t, b.h, b.u, first == 0 && second == 0)
						b.h.Weights0, b.h.Weights1, b.h.Log = nil, nil, 1
						asks(t, b.h, b.u, false)
						b.h.Log, b.h.LogC = 0, 1
						asks(t, b.h, b.u, false)
					}
				}
			}
		}
	}
}

// P4.1: each number of each weight of both lists.
func TestWeights(t *testing.T) {
	lists := []func(h *api.Head) []api.Weight{
		func(h *api.Head) []api.Weight { return h.Weights0 },
		func(h *api.Head) []api.Weight { return h.Weights1 },
	}
	for i, from := range []func() base{ofP, ofB} {
		for _, list := range lists[:i+1] {
			b := from()
			for place := range list(&b.h) {
				for k := range 3 {
					inRange(t, from, func(h *api.Head) *int { return &list(h)[place].Scale[k] }, -128, 127)
					inRange(t, from, func(h *api.Head) *int { return &list(h)[place].Offset[k] }, -128, 127)
				}
			}
		}
	}
}

// P4.1: LongKey and Ops, of a key and of none, of each ref.
func TestMarks(t *testing.T) {
	for ref := range 4 {
		for _, from := range sorts {
			b := from()
			b.u.ref = ref
			b.h.LongKey, b.h.Ops = false, nil
			asks(t, b.h, b.u, true)
			b.h.LongKey = true
			asks(t, b.h, b.u, b.u.key && ref > 0)
			b.h.LongKey = false
			for _, n := range []int{0, 1, 2, 15, 16, 17, 18, 256, 1 << 16} {
				b.h.Ops = make([]api.Op, n)
				for i := range b.h.Ops {
					b.h.Ops[i].Kind = api.OpAllOut
				}
				asks(t, b.h, b.u, n == 0 || !b.u.key && ref > 0 && n <= 16)
			}
		}
	}
}

// P4.1: an Op's numbers, at each place: those that its Kind has, the others 0.
func TestOps(t *testing.T) {
	for _, place := range []int{0, 1, 7, 15} {
		for kind := -2; kind <= 9; kind++ {
			from := func() base {
				b := ofP()
				b.h.Ops = make([]api.Op, 16)
				for i := range b.h.Ops {
					b.h.Ops[i].Kind = api.OpAllOut
				}
				b.h.Ops[place].Kind = kind
				return b
			}
			b := from()
			asks(t, b.h, b.u, kind >= 1 && kind <= 6)
			if kind < 1 || kind > 6 {
				continue
			}
			most := []int{0, 255, 255, 255, 255, 0, 255}[kind]
			inRange(t, from, func(h *api.Head) *int { return &h.Ops[place].A }, 0, most)
			if kind != api.OpToLong {
				most = 0
			}
			inRange(t, from, func(h *api.Head) *int { return &h.Ops[place].B }, 0, most)
		}
	}
	inRange(t, func() base {
		b := ofI()
		b.h.Ops = []api.Op{{Kind: api.OpAllOut}}
		return b
	}, func(h *api.Head) *int { return &h.Ops[0].Kind }, api.OpShortOut, api.OpThisLong)
}

// P4.1: Off, A and B, with Deblock and without.
func TestEdges(t *testing.T) {
	for _, from := range sorts {
		for i := range 4 {
			for a := -8; a <= 8; a++ {
				for c := -8; c <= 8; c++ {
					b := from()
					b.u.p.Deblock, b.h.Off, b.h.A, b.h.B = i&1 > 0, i&2 > 0, a, c
					switch {
					case !b.u.p.Deblock:
						asks(t, b.h, b.u, !b.h.Off && a == 0 && c == 0)
					case b.h.Off:
						asks(t, b.h, b.u, a == 0 && c == 0)
					default:
						asks(t, b.h, b.u, within(-6, 6, a, c))
					}
				}
			}
		}
	}
}

// notStanding: what there may be no headers of.
func notStanding() []func(u *unit) {
	return []func(u *unit){
		func(u *unit) { u.s = api.Sps{} },
		func(u *unit) { u.s.Wide = 0 },
		func(u *unit) { u.s.High = 9 },
		func(u *unit) { u.s.FrameBits = 3 },
		func(u *unit) { u.s.FrameBits = 99 },
		func(u *unit) { u.s.PocBits = -1 },
		func(u *unit) { u.s.PocType = 3 },
		func(u *unit) { u.s.Refs = 9 },
		func(u *unit) { u.p = api.Pps{} },
		func(u *unit) { u.p.BiPred = 3 },
		func(u *unit) { u.p.Qp = 52 },
		func(u *unit) { u.p.Active0 = 9 },
		func(u *unit) { u.p.Active1 = 0 },
		func(u *unit) { u.ref = -1 },
		func(u *unit) { u.ref = 4 },
		func(u *unit) { u.ref = math.MinInt },
		func(u *unit) { u.ref = math.MaxInt },
	}
}

// P4.1, P4.2: parameters that may not be, an importance that is none: told at
// once, whatever else is at fault, but behind ErrNil.
func TestNoHeadersAtAll(t *testing.T) {
	for i, change := range notStanding() {
		for _, from := range sorts {
			b := from()
			row := joined(pieces(b.h, b.u))
			change(&b.u)
			asks(t, b.h, b.u, false)
			for _, s := range []string{"", digits.Packed(row), digits.Packed(row[:9]), digits.Packed(digits.TooLong), digits.Packed("11" + digits.Ue(9))} {
				asksGet(t, s, 0, b.u, api.Head{}, 0, api.ErrHeadRange)
			}
			if code := head.Put(nil, b.h, b.u.s, b.u.p, b.u.ref, b.u.key); code != api.ErrNil {
				t.Errorf("R6: row %d: %d", i, code)
			}
			if h, code := head.Get(nil, b.u.s, b.u.p, b.u.ref, b.u.key); shown(h) != shown(api.Head{}) || code != api.ErrNil {
				t.Errorf("R6: row %d: %d", i, code)
			}
		}
	}
}

// R3: a nil Writer or Reader, with all that may be and with what may not be.
func TestNil(t *testing.T) {
	for _, from := range sorts {
		b := from()
		for range 2 {
			if code := head.Put(nil, b.h, b.u.s, b.u.p, b.u.ref, b.u.key); code != api.ErrNil {
				t.Errorf("R3: %d", code)
			}
			if h, code := head.Get(nil, b.u.s, b.u.p, b.u.ref, b.u.key); shown(h) != shown(api.Head{}) || code != api.ErrNil {
				t.Errorf("R3: %s, %d", shown(h), code)
			}
			b.h.Qp = 99
		}
	}
}

// P4.1: an Sps of each PocType may hold a Cycle, or not.
func TestCycles(t *testing.T) {
	b := ofP()
	b.u.s.PocType, b.u.s.PocBits, b.h.Poc = 1, 4, 0
	b.u.s.NonRef, b.u.s.Cycle = -3, []int{1, 2, 3, 4}
	asks(t, b.h, b.u, true)
	b.u.s.Cycle = []int{1, 2, 3, 4, 5}
	if head.May(b.h, b.u.s, b.u.p, b.u.ref, b.u.key) {
		t.Error("P4.1: a Cycle of 5")
	}
}

// An empty list and nil are one.
func TestEmptyLists(t *testing.T) {
	for _, from := range sorts {
		b := from()
		b.u.p.Weighted, b.u.p.BiPred = false, 0
		b.h.Log, b.h.LogC = 0, 0
		b.h.Mods0, b.h.Mods1, b.h.Weights0, b.h.Weights1, b.h.Ops = nil, nil, nil, nil, nil
		asks(t, b.h, b.u, true)
		b.h.Mods0, b.h.Mods1, b.h.Ops = []api.Mod{}, make([]api.Mod, 0, 4), []api.Op{}
		b.h.Weights0, b.h.Weights1 = []api.Weight{}, make([]api.Weight, 0, 4)
		asks(t, b.h, b.u, true)
	}
}

// P4.1: of nothing set there is no header.
func TestNothingSet(t *testing.T) {
	asks(t, api.Head{}, unit{}, false)
	asks(t, api.Head{}, parameters(), false)
}

// P4.1: any that may be, and what a number beyond its range makes of it.
func TestAnyMay(t *testing.T) {
	c := chance{3}
	for range 20000 {
		u := c.unit()
		h := c.head(u)
		asks(t, h, u, true)
		c.spoil(&h)
		asks(t, h, u, wantMay(h, u))
		asks(t, c.head(u), u, true)
		other := c.unit()
		h = c.head(u)
		asks(t, h, other, wantMay(h, other))
	}
}

// spoil makes some numbers of h any.
func (c *chance) spoil(h *api.Head) {
	fields := []*int{&h.First, &h.Count, &h.Type, &h.FrameNum, &h.Id, &h.Poc, &h.Active0, &h.Active1, &h.Log, &h.LogC, &h.Qp, &h.A, &h.B}
	for i := range h.Mods0 {
		fields = append(fields, &h.Mods0[i].Kind, &h.Mods0[i].V)
	}
	for i := range h.Weights1 {
		fields = append(fields, &h.Weights1[i].Scale[1], &h.Weights1[i].Offset[2])
	}
	for i := range h.Ops {
		fields = append(fields, &h.Ops[i].Kind, &h.Ops[i].A, &h.Ops[i].B)
	}
	for _, x := range fields {
		if c.Below(2*len(fields)) == 0 {
			*x = c.From(-2, 10) * c.From(1, 30)
		}
	}
	for _, on := range []*bool{&h.Spatial, &h.LongKey, &h.Off} {
		if c.Below(20) == 0 {
			*on = !*on
		}
	}
}
