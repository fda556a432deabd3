package bits_test

import (
	"math"
	"strings"
	"testing"

	"zoetrope/api"
	"zoetrope/bits"
	"zoetrope/digits"
)

// sameBits holds a Writer against a text of bits.
func sameBits(t *testing.T, what string, w *bits.Writer, row string) {
	t.Helper()
	if w.Len() != len(row) || w.Bytes() != digits.Packed(row) {
		t.Errorf("%s: %d bits %q, want %d bits %q", what, w.Len(), w.Bytes(), len(row), digits.Packed(row))
	}
}

// P1.1: a new Writer has no bits, and each of New's is its own.
func TestNewIsEmpty(t *testing.T) {
	w, other := bits.New(), bits.New()
	if w == nil || w.Len() != 0 || w.Bytes() != "" {
		t.Fatal("P1.1: New")
	}
	w.Bits(1, 1)
	sameBits(t, "P1.1: the other", other, "")
}

// P1.1: the codes as the chapter writes them.
func TestWrittenCodes(t *testing.T) {
	for x, row := range []string{"1", "010", "011", "00100", "00101", "00110", "00111", "0001000"} {
		w := bits.New()
		if w.Ue(x) != api.OK {
			t.Errorf("P1.1: Ue %d", x)
		}
		sameBits(t, "P1.1: Ue", w, row)
	}
	for x, row := range map[int]string{0: "1", 1: "010", -1: "011", 2: "00100", -2: "00101", 3: "00110", -3: "00111"} {
		w := bits.New()
		if w.Se(x) != api.OK {
			t.Errorf("P1.1: Se %d", x)
		}
		sameBits(t, "P1.1: Se", w, row)
	}
	for _, c := range []struct {
		x, most int
		row     string
	}{{0, 1, "1"}, {1, 1, "0"}, {0, 2, "1"}, {1, 2, "010"}, {2, 2, "011"}, {3, 3, "00100"}, {3, math.MaxInt, "00100"}} {
		w := bits.New()
		if w.Te(c.x, c.most) != api.OK {
			t.Errorf("P1.1: Te %d of %d", c.x, c.most)
		}
		sameBits(t, "P1.1: Te", w, c.row)
	}
}

// P1.1: n of 0, of 32, and all between, least and greatest.
func TestWrittenWidths(t *testing.T) {
	for n := range 33 {
		for _, x := range []int{0, (1<<n - 1) / 3, 1<<n - 1} {
			for held := range 9 {
				w := bits.New()
				w.Bits(0, held)
				if w.Bits(x, n) != api.OK {
					t.Errorf("P1.1: %d of %d bits", x, n)
				}
				w.Bits(1, 1)
				sameBits(t, "P1.1: Bits", w, strings.Repeat("0", held)+digits.Plain(x, n)+"1")
			}
		}
	}
}

// P1.1: greatest and least numbers of each code, behind any number of bits.
func TestWrittenGreatest(t *testing.T) {
	for held := range 8 {
		w := bits.New()
		w.Bits(1<<held-1, held)
		row := strings.Repeat("1", held)
		for i, code := range []api.Errno{w.Ue(0), w.Ue(digits.GreatestUe), w.Ue(digits.GreatestUe - 1), w.Se(digits.GreatestSe), w.Se(-digits.GreatestSe),
			w.Te(digits.GreatestUe, digits.GreatestUe), w.Te(digits.GreatestUe, math.MaxInt), w.Te(0, digits.GreatestUe)} {
			if code != api.OK {
				t.Errorf("P1.1: row %d: %d", i, code)
			}
		}
		row += digits.Ue(0) + digits.Ue(digits.GreatestUe) + digits.Ue(digits.GreatestUe-1) + digits.Se(digits.GreatestSe) + digits.Se(-digits.GreatestSe) + digits.Ue(digits.GreatestUe) + digits.Ue(digits.GreatestUe) + digits.Ue(0)
		sameBits(t, "P1.1", w, row)
	}
}

// wrongWrites: every call that may not be, by name.
func wrongWrites(w *bits.Writer) map[string]api.Errno {
	return map[string]api.Errno{
		"Bits n -1":         w.Bits(0, -1),
		"Bits n least":      w.Bits(0, math.MinInt),
		"Bits n 33":         w.Bits(0, 33),
		"Bits n 64":         w.Bits(0, 64),
		"Bits n greatest":   w.Bits(0, math.MaxInt),
		"Bits 1 in 0":       w.Bits(1, 0),
		"Bits -1 in 0":      w.Bits(-1, 0),
		"Bits 2 in 1":       w.Bits(2, 1),
		"Bits -1 in 32":     w.Bits(-1, 32),
		"Bits 2^32 in 32":   w.Bits(1<<32, 32),
		"Bits least in 32":  w.Bits(math.MinInt, 32),
		"Ue -1":             w.Ue(-1),
		"Ue least":          w.Ue(math.MinInt),
		"Ue 2^31-1":         w.Ue(digits.GreatestUe + 1),
		"Ue greatest":       w.Ue(math.MaxInt),
		"Se 2^30":           w.Se(digits.GreatestSe + 1),
		"Se -2^30":          w.Se(-digits.GreatestSe - 1),
		"Se least":          w.Se(math.MinInt),
		"Se greatest":       w.Se(math.MaxInt),
		"Te most 0":         w.Te(0, 0),
		"Te most -1":        w.Te(-1, -1),
		"Te most least":     w.Te(math.MinInt, math.MinInt),
		"Te -1 of 1":        w.Te(-1, 1),
		"Te 2 of 1":         w.Te(2, 1),
		"Te -1 of 5":        w.Te(-1, 5),
		"Te 6 of 5":         w.Te(6, 5),
		"Te above Ue's":     w.Te(digits.GreatestUe+1, math.MaxInt),
		"Te greatest of it": w.Te(math.MaxInt, math.MaxInt),
	}
}

// P1.1, R5: beside an error nothing is written, and what follows is as if it
// had not been.
func TestWrongWritesLeaveNothing(t *testing.T) {
	for held := range 9 {
		row := strings.Repeat("1", held)
		w := bits.New()
		w.Bits(1<<held-1, held)
		for what, code := range wrongWrites(w) {
			if code != api.ErrBitsForm {
				t.Errorf("P1.1: %s: %d", what, code)
			}
		}
		sameBits(t, "P1.1: beside an error", w, row)
		w.Ue(4)
		sameBits(t, "P1.1: behind an error", w, row+digits.Ue(4))
	}
}

// P1.1: Trail is a 1 and noughts up to a whole byte: a whole one, if it starts one.
func TestWrittenTrail(t *testing.T) {
	for held := range 17 {
		w := bits.New()
		w.Bits(1<<held-1, held)
		w.Trail()
		row := strings.Repeat("1", held+1)
		row += strings.Repeat("0", (8-len(row)%8)%8)
		sameBits(t, "P1.1: Trail", w, row)
		w.Trail()
		sameBits(t, "P1.1: Trail twice", w, row+"10000000")
	}
}

// P1.1: Bytes and Len ask only: the bits behind them stand where they would.
func TestBytesChangesNothing(t *testing.T) {
	w, row := bits.New(), ""
	for i := range 40 {
		w.Bits(i%2, 1)
		row += digits.Plain(i%2, 1)
		first := w.Bytes()
		sameBits(t, "P1.1: Bytes", w, row)
		if w.Bytes() != first {
			t.Error("P1.1: Bytes twice")
		}
	}
}

// R4: what was told stays as it is.
func TestBytesAreKept(t *testing.T) {
	w := bits.New()
	w.Bits(0xabc, 12)
	told := w.Bytes()
	w.Bits(0xf, 4)
	w.Bits(0xff, 8)
	if told != "\xab\xc0" {
		t.Errorf("R4: %q", told)
	}
}

// R3: a nil Writer, whatever it is handed.
func TestNilWriter(t *testing.T) {
	var w *bits.Writer
	w.Trail()
	for what, code := range wrongWrites(w) {
		if code != api.ErrNil {
			t.Errorf("R3: %s: %d", what, code)
		}
	}
	for i, code := range []api.Errno{w.Bits(1, 1), w.Ue(1), w.Se(1), w.Te(1, 1), w.Te(1, 2)} {
		if code != api.ErrNil {
			t.Errorf("R3: row %d: %d", i, code)
		}
	}
	if w.Len() != 0 || w.Bytes() != "" {
		t.Error("R3")
	}
}

// R1: a Writer that New did not make is one of no bits.
func TestBareWriter(t *testing.T) {
	var w bits.Writer
	sameBits(t, "R1", &w, "")
	if w.Ue(3) != api.OK {
		t.Error("R1")
	}
	sameBits(t, "R1", &w, "00100")
}

// P1.1: a long row, held against the model.
func TestLongRow(t *testing.T) {
	c := chance{7}
	w := bits.New()
	var row strings.Builder
	for range 20000 {
		x := c.Below(1<<30) >> c.Below(31)
		switch c.Below(4) {
		case 0:
			n := 30 + c.Below(3)
			w.Bits(x, n)
			row.WriteString(digits.Plain(x, n))
		case 1:
			w.Ue(x)
			row.WriteString(digits.Ue(x))
		case 2:
			w.Se(x - 1<<29)
			row.WriteString(digits.Se(x - 1<<29))
		default:
			w.Te(x%2, 1)
			row.WriteString(digits.Te(x%2, 1))
		}
	}
	sameBits(t, "P1.1", w, row.String())
}
