package engine_test

import (
	"math/big"
	"strconv"
	"strings"

	"zoetrope/api"
)

// The models work on bits as a text of '0' and '1', by the chapter's words alone.

// chapterWidths is the chapter's table of widths: index by index, four each.
const chapterWidths = "128 176 208 240, 128 167 197 227, 128 158 187 216, 123 150 178 205, 116 142 169 195, 111 135 160 185, 105 128 152 175, 100 122 144 166, " +
	"95 116 137 158, 90 110 130 150, 85 104 123 142, 81 99 117 135, 77 94 111 128, 73 89 105 122, 69 85 100 116, 66 80 95 110, " +
	"62 76 90 104, 59 72 86 99, 56 69 81 94, 53 65 77 89, 51 62 73 85, 48 59 69 80, 46 56 66 76, 43 53 63 72, " +
	"41 50 59 69, 39 48 56 65, 37 45 54 62, 35 43 51 59, 33 41 48 56, 32 39 46 53, 30 37 43 50, 29 35 41 48, " +
	"27 33 39 45, 26 31 37 43, 24 30 35 41, 23 28 33 39, 22 27 32 37, 21 26 30 35, 20 24 29 33, 19 23 27 31, " +
	"18 22 26 30, 17 21 25 28, 16 20 23 27, 15 19 22 25, 14 18 21 24, 14 17 20 23, 13 16 19 22, 12 15 18 21, " +
	"12 14 17 20, 11 14 16 19, 11 13 15 18, 10 12 15 17, 10 12 14 16, 9 11 13 15, 9 11 12 14, 8 10 12 14, " +
	"8 9 11 13, 7 9 11 12, 7 9 10 12, 7 8 10 11, 6 8 9 11, 6 7 9 10, 6 7 8 9, 2 2 2 2"

// chapterFalls is the chapter's table of indexes behind the less likely bin.
const chapterFalls = "0 0 1 2 2 4 4 5 6 7 8 9 9 11 11 12 13 13 15 15 16 16 18 18 19 19 21 21 22 22 23 24 " +
	"24 25 26 26 27 27 28 29 29 30 30 30 31 32 32 33 33 33 34 34 35 35 35 36 36 36 37 37 37 38 38 63"

// numbers of a text.
func numbers(s string) []int {
	var out []int
	for _, field := range strings.Fields(strings.ReplaceAll(s, ",", " ")) {
		x, _ := strconv.Atoi(field)
		out = append(out, x)
	}
	return out
}

// tables are the chapter's.
type tables struct {
	widths []int
	falls  []int
}

var chapter = tables{numbers(chapterWidths), numbers(chapterFalls)}

func (t tables) width(state, q int) int {
	return t.widths[4*(state/2)+q]
}

func (t tables) next(state int, mps bool) int {
	index, likely := state/2, state%2
	if mps && index < 62 {
		return 2*(index+1) + likely
	}
	if mps {
		return state
	}
	if index == 0 {
		return 2*t.falls[0] + 1 - likely
	}
	return 2*t.falls[index] + likely
}

// kinds of call.
const (
	byContext = iota
	byBypass
	byTerminate
)

// bin is one call, and the bin of it.
type bin struct {
	kind, ctx, b int
}

// row is a text of bits that grows: the bits that wait are not in it.
type row struct {
	bits    []byte
	waiting int
	any     bool
}

func (r *row) put(b int) {
	if r.any {
		r.bits = append(r.bits, byte('0'+b))
	}
	r.any = true
	for ; r.waiting > 0; r.waiting-- {
		r.bits = append(r.bits, byte('1'-b))
	}
}

// encoder is a model of the Encoder.
type encoder struct {
	tables
	row
	states []int
	low    int
	span   int
}

func newEncoder(states []int) *encoder {
	return &encoder{tables: chapter, states: append([]int{}, states...), span: 510}
}

func (e *encoder) renorm() {
	for e.span < 256 {
		if e.low < 256 {
			e.put(0)
		} else if e.low >= 512 {
			e.low -= 512
			e.put(1)
		} else {
			e.low -= 256
			e.waiting++
		}
		e.span *= 2
		e.low *= 2
	}
}

func (e *encoder) call(x bin) {
	switch x.kind {
	case byContext:
		s := e.states[x.ctx]
		width := e.width(s, e.span/64%4)
		e.span -= width
		if x.b != s%2 {
			e.low += e.span
			e.span = width
		}
		e.states[x.ctx] = e.next(s, x.b == s%2)
		e.renorm()
	case byBypass:
		e.low = 2*e.low + x.b*e.span
		if e.low >= 1024 {
			e.put(1)
			e.low -= 1024
		} else if e.low < 512 {
			e.put(0)
		} else {
			e.low -= 512
			e.waiting++
		}
	case byTerminate:
		e.span -= 2
		if x.b == 1 {
			e.low += e.span
			e.span = 2
		}
		e.renorm()
		if x.b == 1 {
			e.put(e.low / 512 % 2)
			e.bits = append(e.bits, byte('0'+e.low/256%2), '1')
		}
	}
}

// whole tells what all bins, and a Terminate of 1 behind them, come to: low as
// one great number, so that nothing waits and no carry is a case of its own.
func whole(all []bin, states []int) string {
	t, states := chapter, append([]int{}, states...)
	low, span, doubled := new(big.Int), 510, 0
	add := func(n int) { low.Add(low, big.NewInt(int64(n))) }
	double := func() { low.Lsh(low, 1); doubled++ }
	for _, x := range append(append([]bin{}, all...), bin{byTerminate, 0, 1}) {
		switch x.kind {
		case byContext:
			s := states[x.ctx]
			width := t.width(s, span/64%4)
			if span -= width; x.b != s%2 {
				add(span)
				span = width
			}
			states[x.ctx] = t.next(s, x.b == s%2)
		case byBypass:
			double()
			add(x.b * span)
		case byTerminate:
			if span -= 2; x.b == 1 {
				add(span)
				span = 2
			}
		}
		for ; span < 256; span *= 2 {
			double()
		}
	}
	// Ten bits of low are in hand; the first is left out, the lowest seven fall away.
	low.Rsh(low, 7).SetBit(low, 0, 1)
	text := low.Text(2)
	return strings.Repeat("0", max(0, doubled+2-len(text))) + text
}

// decoder is a model of the Decoder.
type decoder struct {
	tables
	bits   string
	at     int
	states []int
	span   int
	offset int
	ended  bool
}

// newDecoder: of what bits there are.
func newDecoder(text string, states []int) (*decoder, api.Errno) {
	if len(text) < 9 {
		return nil, api.ErrEngineEnd
	}
	offset, _ := strconv.ParseInt(text[:9], 2, 64)
	if offset >= 510 {
		return nil, api.ErrEngineForm
	}
	return &decoder{tables: chapter, bits: text, at: 9, states: append([]int{}, states...), span: 510, offset: int(offset)}, api.OK
}

// double doubles the offset with the next bit, and tells if there was one.
func (d *decoder) double() bool {
	if d.at == len(d.bits) {
		return false
	}
	d.offset = 2*d.offset + int(d.bits[d.at]-'0')
	d.at++
	return true
}

func (d *decoder) renorm() bool {
	for d.span < 256 {
		if !d.double() {
			return false
		}
		d.span *= 2
	}
	return true
}

// call tells the bin of a call; x's own is not looked at. Beside an error the
// decoder is laid back to where it was.
func (d *decoder) call(x bin) (int, api.Errno) {
	if d.ended || x.kind == byContext && (x.ctx < 0 || x.ctx >= len(d.states)) {
		return 0, api.ErrEngineForm
	}
	kept := *d
	kept.states = append([]int{}, d.states...)
	b, enough := 0, true
	switch x.kind {
	case byContext:
		s := d.states[x.ctx]
		width := d.width(s, d.span/64%4)
		d.span -= width
		b = s % 2
		likely := d.offset < d.span
		if !likely {
			b = 1 - b
			d.offset -= d.span
			d.span = width
		}
		d.states[x.ctx] = d.next(s, likely)
		enough = d.renorm()
	case byBypass:
		if enough = d.double(); d.offset >= d.span {
			b = 1
			d.offset -= d.span
		}
	case byTerminate:
		if d.span -= 2; d.offset >= d.span {
			d.ended = true
			return 1, api.OK
		}
		enough = d.renorm()
	}
	if !enough {
		*d = kept
		return 0, api.ErrEngineEnd
	}
	return b, api.OK
}
