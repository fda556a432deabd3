package engine_test

import (
	"math"
	"slices"
	"testing"

	"zoetrope/api"
	"zoetrope/digits"
	"zoetrope/engine"
)

// get makes a call of a Decoder.
func (x bin) get(d *engine.Decoder) (int, api.Errno) {
	switch x.kind {
	case byContext:
		return d.Bin(x.ctx)
	case byBypass:
		return d.Bypass()
	}
	return d.Terminate()
}

// sameDecoder holds a Decoder against the model.
func sameDecoder(t *testing.T, what string, d *engine.Decoder, m *decoder) {
	t.Helper()
	if d.At() != m.at || !slices.Equal(d.States(), m.states) {
		t.Fatalf("%s: at %d, %v, want %d, %v", what, d.At(), d.States(), m.at, m.states)
	}
}

// asks makes a call of both, and tells the model's error.
func asks(t *testing.T, what string, d *engine.Decoder, m *decoder, x bin) api.Errno {
	t.Helper()
	b, code := x.get(d)
	want, wantCode := m.call(x)
	if b != want || code != wantCode {
		t.Fatalf("%s: %v: %d, %d, want %d, %d", what, x, b, code, want, wantCode)
	}
	sameDecoder(t, what, d, m)
	return code
}

// opened: a Decoder and the model of it, if there may be one.
func opened(t *testing.T, s string, states []int) (*engine.Decoder, *decoder) {
	t.Helper()
	d, code := engine.NewDecoder(s, states)
	m, want := newDecoder(digits.Spread(s), states)
	if code != want || (d == nil) != (m == nil) {
		t.Fatalf("P5.3: %x: %d, want %d", s, code, want)
	}
	if d != nil {
		sameDecoder(t, "P5.3: new", d, m)
	}
	return d, m
}

// P5.3: all texts of fewer than two bytes, and of two and three: which there
// may be a Decoder of, and what their first bins are.
func TestEveryShortText(t *testing.T) {
	opened(t, "", nil)
	for a := range 256 {
		if d, code := engine.NewDecoder(string([]byte{byte(a)}), []int{1}); d != nil || code != api.ErrEngineEnd {
			t.Fatalf("P5.3: %x: %d", a, code)
		}
		for b := range 256 {
			states := []int{a / 2, b / 2}
			d, m := opened(t, string([]byte{byte(a), byte(b)}), states)
			for i := 0; d != nil && i < 12; i++ {
				asks(t, "P5.3", d, m, bin{kind: (a + i) % 3, ctx: i % 2})
			}
		}
	}
}

// P5.3: first bits of 509, 510 and 511, whatever is behind them.
func TestFirstBits(t *testing.T) {
	for _, c := range []struct {
		s    string
		want api.Errno
	}{
		{"\xfe\x00", api.OK}, {"\xfe\x80", api.OK}, {"\xfe\xff", api.OK}, {"\xff\x00", api.ErrEngineForm}, {"\xff\x7f\xff", api.ErrEngineForm},
		{"\xff\x80", api.ErrEngineForm}, {"\xff\xff\xff", api.ErrEngineForm}, {"\xff", api.ErrEngineEnd}, {"\xfe", api.ErrEngineEnd}, {"", api.ErrEngineEnd},
	} {
		for _, states := range [][]int{nil, {}, {3}, {-1}} {
			if d, code := engine.NewDecoder(c.s, states); code != c.want || (d != nil) != (code == api.OK) || d != nil && d.At() != 9 {
				t.Errorf("P5.3: %x: %d", c.s, code)
			}
		}
	}
}

// P5.3: any bytes and calls: the bin, At and States behind each, up to the end
// and beyond it.
func TestAnyBytes(t *testing.T) {
	c := chance{1}
	ends, over := 0, 0
	for range 3000 {
		many := c.Below(5)
		d, m := opened(t, c.Text(c.Below(30)), c.Numbers(many, 128))
		if d == nil {
			continue
		}
		for left := 300; left > 0; left-- {
			x := c.call(many, 5)
			if c.Below(40) == 0 {
				x = bin{kind: byContext, ctx: many + c.Below(3) - 2*many*c.Below(2)}
			}
			switch code := asks(t, "P5.3", d, m, x); {
			case m.ended:
				over++
				left = min(left, 6)
			case code == api.ErrEngineEnd:
				ends++
				left = min(left, 6)
			}
		}
	}
	if ends < 100 || over < 100 {
		t.Errorf("%d ran out, %d ended", ends, over)
	}
}

// P5.3: bits that end anywhere: the call tells it, the Decoder stays as it was,
// again and again, and calls that need no more bits go on.
func TestBitsEndAnywhere(t *testing.T) {
	c := chance{2}
	all := c.calls(400, 3)
	states := c.Numbers(3, 128)
	e := engine.NewEncoder(states)
	for _, x := range all {
		x.put(e)
	}
	e.Terminate(1)
	s := e.Bytes()
	for n := range s {
		d, m := opened(t, s[:n], states)
		if d == nil {
			continue
		}
		i := 0
		for asks(t, "P5.3", d, m, all[i]) == api.OK {
			i++
		}
		for range 3 {
			for ctx := range 3 {
				asks(t, "P5.3: at the end", d, m, bin{kind: byContext, ctx: ctx})
			}
			asks(t, "P5.3: at the end", d, m, bin{kind: byBypass})
			asks(t, "P5.3: at the end", d, m, bin{kind: byTerminate})
		}
	}
}

// P5.3: each number of bits left, and each that a bin asks for: what is too
// much is told, and none of what is left is read. The texts hold the offset
// just below the range, or at 0, however many bins go by bypass.
func TestEachNeedAndRest(t *testing.T) {
	needs := map[int]int{}
	for state := range 128 {
		for left := range 8 {
			for _, c := range []struct {
				s     string
				ahead int
			}{{"\xfe\xff", 0}, {"\x86\xff", 1}, {"\x00\x00", 0}, {"\x00\x00", 1}} {
				d, m := opened(t, c.s, []int{state, 0})
				for range c.ahead {
					asks(t, "P5.3", d, m, bin{kind: byContext, ctx: 1})
				}
				for 16-m.at > left {
					asks(t, "P5.3", d, m, bin{kind: byBypass})
				}
				at := m.at
				if asks(t, "P5.3", d, m, bin{kind: byContext}) == api.OK {
					needs[m.at-at]++
				}
			}
		}
	}
	for n := range 8 {
		if needs[n] == 0 {
			t.Errorf("no bin took %d bits: %v", n, needs)
		}
	}
}

// P5.3: a Terminate that tells 0 needs a bit now and then, and one that tells
// 1 needs none, though none is left.
func TestTerminateAtTheEnd(t *testing.T) {
	d, m := opened(t, "\x00\x00", nil)
	for asks(t, "P5.3", d, m, bin{kind: byTerminate}) == api.OK {
	}
	if d.At() != 16 {
		t.Errorf("P5.3: %d", d.At())
	}
	d, m = opened(t, "\xfe\xff", nil)
	for range 7 {
		asks(t, "P5.3", d, m, bin{kind: byBypass})
	}
	if code := asks(t, "P5.3", d, m, bin{kind: byBypass}); code != api.ErrEngineEnd {
		t.Errorf("P5.3: %d", code)
	}
	if b, code := d.Terminate(); b != 1 || code != api.OK || d.At() != 16 {
		t.Errorf("P5.3: %d, %d, at %d", b, code, d.At())
	}
}

// wrongGets: every call of a Decoder of three contexts that has no place, by name.
func wrongGets(d *engine.Decoder) map[string]bin {
	return map[string]bin{
		"ctx -1":       {kind: byContext, ctx: -1},
		"ctx 3":        {kind: byContext, ctx: 3},
		"ctx 256":      {kind: byContext, ctx: 256},
		"ctx least":    {kind: byContext, ctx: math.MinInt},
		"ctx greatest": {kind: byContext, ctx: math.MaxInt},
	}
}

// P5.3, R6: a place that is none is told, also where no bits are left.
func TestWrongGets(t *testing.T) {
	d, m := opened(t, "\x12\x34\x56", []int{1, 2, 3})
	for ended := false; !ended; {
		for what, x := range wrongGets(d) {
			if b, code := x.get(d); b != 0 || code != api.ErrEngineForm {
				t.Errorf("P5.3: %s: %d, %d", what, b, code)
			}
			sameDecoder(t, "P5.3", d, m)
		}
		ended = asks(t, "P5.3", d, m, bin{kind: byBypass}) == api.ErrEngineEnd
	}
}

// P5.3: behind a Terminate of 1 each call is an error; At and States stay.
func TestDecoderHasEnded(t *testing.T) {
	for _, s := range []string{"\xfe\x80", "\xfe\x80\x00", "\xfe\x80 and more"} {
		d, m := opened(t, s, []int{1, 2, 3})
		asks(t, "P5.3", d, m, bin{kind: byTerminate})
		if !m.ended || d.At() != 9 {
			t.Fatalf("P5.3: at %d", d.At())
		}
		for range 2 {
			for _, x := range []bin{{kind: byContext}, {kind: byContext, ctx: 3}, {kind: byBypass}, {kind: byTerminate}} {
				if asks(t, "P5.3", d, m, x) != api.ErrEngineForm {
					t.Errorf("P5.3: %v", x)
				}
			}
		}
	}
}

// P5.3: At and States ask only.
func TestAtChangesNothing(t *testing.T) {
	c := chance{9}
	s, states := "\x35"+c.Text(200), c.Numbers(4, 128)
	asked, _ := engine.NewDecoder(s, states)
	left, _ := engine.NewDecoder(s, states)
	for range 400 {
		x := c.call(4, 5)
		b, code := x.get(asked)
		if other, otherCode := x.get(left); other != b || otherCode != code {
			t.Fatalf("P5.3: %v", x)
		}
		if asked.At() != asked.At() || !slices.Equal(asked.States(), asked.States()) {
			t.Error("P5.3: twice")
		}
	}
	if asked.At() != left.At() || !slices.Equal(asked.States(), left.States()) {
		t.Error("P5.3")
	}
}

// R3, R6: a nil Decoder, whatever it is handed.
func TestNilDecoder(t *testing.T) {
	var d *engine.Decoder
	for _, x := range []bin{{kind: byContext}, {kind: byContext, ctx: -1}, {kind: byBypass}, {kind: byTerminate}} {
		if b, code := x.get(d); b != 0 || code != api.ErrNil {
			t.Errorf("R3: %v: %d, %d", x, b, code)
		}
	}
	if d.At() != 0 || len(d.States()) != 0 {
		t.Error("R3")
	}
}

// R1: a Decoder that NewDecoder did not make tells nothing.
func TestBareDecoder(t *testing.T) {
	d := new(engine.Decoder)
	for _, x := range []bin{{kind: byContext}, {kind: byContext, ctx: -1}, {kind: byBypass}, {kind: byTerminate}} {
		if b, code := x.get(d); b != 0 || code != api.ErrEngineForm {
			t.Errorf("R1: %v: %d, %d", x, b, code)
		}
	}
	if d.At() != 0 || len(d.States()) != 0 {
		t.Error("R1")
	}
}
