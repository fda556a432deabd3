package bins_test

import (
	"math"
	"testing"

	"zoetrope/api"
	"zoetrope/bins"
	"zoetrope/engine"
)

// put holds Put against the model, whose Encoder stands where e stands.
func put(t *testing.T, e, m *engine.Encoder, x element) {
	t.Helper()
	if code := bins.Put(e, x.el, x.inc, x.v, x.most); code != api.OK {
		t.Fatalf("P6.2: %v: %d", x, code)
	}
	write(m, x.el, x.inc, binsOf(x.el, x.v, x.most))
	sameEncoder(t, "P6.2", e, m)
}

// refused holds a Put that tells an error against what it has to leave.
func refused(t *testing.T, e, m *engine.Encoder, x element, want api.Errno) {
	t.Helper()
	if code := bins.Put(e, x.el, x.inc, x.v, x.most); code != want {
		t.Errorf("P6.2: %v: %d, want %d", x, code, want)
	}
	sameEncoder(t, "R5", e, m)
}

// two Encoders of the same states.
func two(states []int) (*engine.Encoder, *engine.Encoder) {
	return engine.NewEncoder(states), engine.NewEncoder(states)
}

// P6.2: any elements, one behind the other.
func TestPut(t *testing.T) {
	c := chance{1}
	for range 300 {
		e, m := two(bins.Init(c.Below(52)))
		for _, x := range c.elements(c.Below(60)) {
			put(t, e, m, x)
		}
		e.Terminate(1)
		m.Terminate(1)
		sameEncoder(t, "P6.2", e, m)
	}
}

// ends: of each element its least and greatest values, and where tails begin.
func ends(el int) []element {
	var out []element
	switch kindOf(el) {
	case 'f':
		out = []element{{v: 0}, {v: 1}, {v: 1, most: math.MinInt}, {v: 0, most: math.MaxInt}}
	case 's':
		out = []element{{v: 0, most: 1}, {v: 1, most: 1}, {v: 0, most: 63}, {v: 62, most: 63}, {v: 63, most: 63}, {v: 7, most: 20}}
	case '+':
		out = []element{{v: 0}, {v: 1}, {v: -1}, {v: 8}, {v: -8}, {v: 9}, {v: -9}, {v: 10}, {v: 16, most: 64}, {v: -17, most: -1}, {v: 32767}, {v: -32767}}
	case 'g':
		out = []element{{v: 0}, {v: 1}, {v: 13}, {v: 14}, {v: 15}, {v: 16}, {v: 17, most: -1}, {v: 65534}, {v: 65535, most: 64}}
	}
	for i := range out {
		out[i].el = el
	}
	return out
}

// P6.2: every element by every place of its contexts, and by those that are none.
func TestPlaces(t *testing.T) {
	for el := range api.ElEnd + 1 {
		e, m := two(bins.Init(el))
		for inc := range 8 {
			for _, x := range ends(el) {
				x.inc = inc
				put(t, e, m, x)
			}
		}
		for _, inc := range []int{-1, 8, 9, 256, -256, math.MinInt, math.MaxInt} {
			for _, x := range ends(el) {
				x.inc = inc
				refused(t, e, m, x, api.ErrBinsForm)
			}
		}
	}
}

// P6.2: the i-th bin's context is the i-th from inc on, at most the last, which
// all further ones have; bins by bypass have none.
func TestContextsOfBins(t *testing.T) {
	for _, inc := range []int{0, 3, 6, 7} {
		for _, x := range []element{{api.ElMvdX, inc, 200, 0}, {api.ElOne, inc, 200, 0}, {api.ElLuma, inc, 12, 12}, {api.ElSig, inc, 1, 0}} {
			states := make([]int, api.Contexts)
			for i := range states {
				states[i] = 20
			}
			e := engine.NewEncoder(states)
			bins.Put(e, x.el, x.inc, x.v, x.most)
			for ctx, state := range e.States() {
				place := ctx - 8*x.el
				asked := place >= inc && place < 8 && (kindOf(x.el) != 'f' || place == inc)
				if (state != 20) != asked {
					t.Errorf("P6.2: %v: context %d: %d", x, ctx, state)
				}
			}
		}
	}
}

// wrong: elements that are none, or may not be, or have no such context.
func wrong() []element {
	return []element{
		{-1, 0, 0, 1}, {20, 0, 0, 1}, {math.MinInt, 0, 0, 1}, {math.MaxInt, 0, 0, 1}, {256, 0, 0, 1},
		{api.ElSkip, 0, -1, 5}, {api.ElSkip, 0, 2, 5}, {api.ElEnd, 0, 2, 5}, {api.ElSkip, -1, 0, 0}, {api.ElSkip, 8, 0, 0},
		{api.ElType, 0, 0, 0}, {api.ElType, 0, 0, 64}, {api.ElType, 0, 0, -1}, {api.ElType, 0, 0, math.MaxInt}, {api.ElType, 0, 5, 4}, {api.ElType, 0, -1, 4}, {api.ElCbp, 0, 64, 63}, {api.ElType, 8, 0, 0},
		{api.ElMvdX, 0, 32768, 0}, {api.ElMvdY, 0, -32768, 0}, {api.ElQp, 0, math.MinInt, 0}, {api.ElQp, 0, math.MaxInt, 0}, {api.ElQp, 8, 0, 0},
		{api.ElOne, 0, -1, 0}, {api.ElOne, 0, 65536, 0}, {api.ElOne, 0, math.MinInt, 0}, {api.ElOne, 0, math.MaxInt, 0}, {api.ElOne, -1, 3, 0},
	}
}

// P6.2: what may not be is told, and nothing is written of it.
func TestWrongPuts(t *testing.T) {
	c := chance{2}
	e, m := two(bins.Init(30))
	for range 50 {
		put(t, e, m, c.element())
		for _, x := range wrong() {
			refused(t, e, m, x, api.ErrBinsForm)
		}
	}
}

// P6.2, R6: behind an end each element that may be is one too many, and what
// may not be is told ahead of it.
func TestPutBehindAnEnd(t *testing.T) {
	e, m := two(bins.Init(30))
	put(t, e, m, element{api.ElOne, 0, 500, 0})
	e.Terminate(1)
	m.Terminate(1)
	for el := range api.ElEnd + 1 {
		for _, x := range ends(el) {
			refused(t, e, m, x, api.ErrBinsEnd)
		}
	}
	for _, x := range wrong() {
		refused(t, e, m, x, api.ErrBinsForm)
	}
}

// P6.2, R6: no Encoder is told ahead of all else.
func TestPutOfNil(t *testing.T) {
	for el := range api.ElEnd + 1 {
		for _, x := range ends(el) {
			if code := bins.Put(nil, x.el, x.inc, x.v, x.most); code != api.ErrNil {
				t.Errorf("R3: %v: %d", x, code)
			}
		}
	}
	for _, x := range wrong() {
		if code := bins.Put(nil, x.el, x.inc, x.v, x.most); code != api.ErrNil {
			t.Errorf("R3: %v: %d", x, code)
		}
	}
}

// P6.2, R5: an Encoder of too few contexts tells of the first that is missing,
// and stands as it stood ahead of the element, for all that follows.
func TestPutOfTooFewContexts(t *testing.T) {
	c := chance{3}
	states := c.Numbers(24, 128) // no more than three elements have
	for many := range len(states) + 1 {
		e, m := two(states[:many])
		for el := range 3 {
			for inc := range 8 {
				for _, x := range ends(el) {
					x.inc = inc
					places := 8*el + min(inc+len(onlyByContext(binsOf(el, x.v, x.most))), 8)
					if places <= many {
						put(t, e, m, x)
					} else {
						refused(t, e, m, x, api.ErrBinsEnd)
					}
				}
			}
		}
		e.Bypass(1)
		m.Bypass(1)
		e.Terminate(1)
		m.Terminate(1)
		sameEncoder(t, "R5", e, m)
	}
}

// onlyByContext: the bins of a text that have a context.
func onlyByContext(text string) string {
	out := ""
	for _, letter := range text {
		if letter < 'a' {
			out += string(letter)
		}
	}
	return out
}

// P6.2, R5: an Encoder of a tail that is told beside too few contexts.
func TestTailOfTooFewContexts(t *testing.T) {
	for many := 8 * api.ElMvdX; many < 8*api.ElMvdY; many++ {
		e, m := two(bins.Init(20)[:many])
		for inc := range 8 {
			refused(t, e, m, element{api.ElMvdX, inc, -300, 0}, api.ErrBinsEnd)
		}
		refused(t, e, m, element{api.ElOne, 0, 0, 0}, api.ErrBinsEnd)
		put(t, e, m, element{api.ElSkip, 7, 1, 0})
	}
	e, m := two(bins.Init(20)[:8*api.ElMvdY])
	put(t, e, m, element{api.ElMvdX, 0, -300, 0})
}

// R1: an Encoder that none made.
func TestPutOfBareEncoder(t *testing.T) {
	for el := range api.ElEnd + 1 {
		for _, x := range ends(el) {
			refused(t, new(engine.Encoder), new(engine.Encoder), x, api.ErrBinsEnd)
		}
	}
	for _, x := range wrong() {
		refused(t, new(engine.Encoder), new(engine.Encoder), x, api.ErrBinsForm)
	}
}
