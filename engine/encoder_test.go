package engine_test

import (
	"math"
	"slices"
	"strings"
	"testing"

	"zoetrope/api"
	"zoetrope/digits"
	"zoetrope/engine"
)

// put makes a call of an Encoder.
func (x bin) put(e *engine.Encoder) api.Errno {
	switch x.kind {
	case byContext:
		return e.Bin(x.ctx, x.b)
	case byBypass:
		return e.Bypass(x.b)
	}
	return e.Terminate(x.b)
}

// sameEncoder holds an Encoder against the model.
func sameEncoder(t *testing.T, what string, e *engine.Encoder, m *encoder) {
	t.Helper()
	if e.Bytes() != digits.Packed(string(m.bits)) || !slices.Equal(e.States(), m.states) {
		t.Fatalf("%s: %s, %v, want %s, %v", what, digits.Spread(e.Bytes()), e.States(), m.bits, m.states)
	}
}

// wrongPuts: every call that may not be of an Encoder of three contexts, by name.
func wrongPuts(e *engine.Encoder) map[string]api.Errno {
	return map[string]api.Errno{
		"Bin ctx -1":         e.Bin(-1, 0),
		"Bin ctx 3":          e.Bin(3, 0),
		"Bin ctx 3, 1":       e.Bin(3, 1),
		"Bin ctx 256":        e.Bin(256, 0),
		"Bin ctx least":      e.Bin(math.MinInt, 0),
		"Bin ctx greatest":   e.Bin(math.MaxInt, 0),
		"Bin 2":              e.Bin(0, 2),
		"Bin -1":             e.Bin(0, -1),
		"Bin least":          e.Bin(2, math.MinInt),
		"Bin greatest":       e.Bin(2, math.MaxInt),
		"Bin both":           e.Bin(-1, 2),
		"Bypass 2":           e.Bypass(2),
		"Bypass -1":          e.Bypass(-1),
		"Bypass least":       e.Bypass(math.MinInt),
		"Bypass greatest":    e.Bypass(math.MaxInt),
		"Terminate 2":        e.Terminate(2),
		"Terminate -1":       e.Terminate(-1),
		"Terminate least":    e.Terminate(math.MinInt),
		"Terminate greatest": e.Terminate(math.MaxInt),
	}
}

// rightPuts: calls that may be of an Encoder of three contexts.
func rightPuts(e *engine.Encoder) map[string]api.Errno {
	return map[string]api.Errno{
		"Bin 0":       e.Bin(0, 0),
		"Bin 1":       e.Bin(2, 1),
		"Bypass 0":    e.Bypass(0),
		"Bypass 1":    e.Bypass(1),
		"Terminate 0": e.Terminate(0),
		"Terminate 1": e.Terminate(1),
	}
}

// P5.2: rows of bits that were worked out by hand: low at the end, in 9 bits and
// as many more as it was doubled ahead, with the last one 1.
func TestWrittenByHand(t *testing.T) {
	for _, c := range []struct {
		what string
		all  []bin
		bits string
	}{
		{"the end alone: 508", nil, "111111101"},
		{"no end, the end: 506", []bin{{byTerminate, 0, 0}}, "111111011"},
		{"bypass of 0: 508", []bin{{byBypass, 0, 0}}, "0111111101"},
		{"bypass of 1: 510 + 508", []bin{{byBypass, 0, 1}}, "1111111011"},
		{"the likely of range 270: 268", []bin{{byContext, 0, 0}}, "100001101"},
		{"the other, 240 wide: 2 * 270 + 478", []bin{{byContext, 0, 1}}, "1111111011"},
	} {
		e := engine.NewEncoder([]int{0})
		for _, x := range c.all {
			x.put(e)
		}
		if code := e.Terminate(1); code != api.OK || e.Bytes() != digits.Packed(c.bits) {
			t.Errorf("P5.2: %s: %d, %s, want %s", c.what, code, digits.Spread(e.Bytes()), c.bits)
		}
	}
}

// P5.2: ahead of the first bin there are no bits, and the states are the given.
func TestNewEncoderIsEmpty(t *testing.T) {
	for _, states := range [][]int{nil, {}, {5}, {0, 127, 64}} {
		e := engine.NewEncoder(states)
		if e == nil || e.Bytes() != "" || !slices.Equal(e.States(), states) {
			t.Errorf("P5.2: %v", states)
		}
	}
}

// P5.2, P5.3: states that are none are 0.
func TestStatesOfNone(t *testing.T) {
	states := []int{-1, 127, 128, 0, math.MinInt, 126, math.MaxInt, 256 + 5, 1<<32 + 7}
	want := []int{0, 127, 0, 0, 0, 126, 0, 0, 0}
	d, _ := engine.NewDecoder("\x12\x34", states)
	if e := engine.NewEncoder(states); !slices.Equal(e.States(), want) || !slices.Equal(d.States(), want) {
		t.Errorf("P5.3: %v, %v", e.States(), d.States())
	}
	e, m := engine.NewEncoder(states), newEncoder(want)
	for ctx := range states {
		x := bin{byContext, ctx, ctx % 2}
		x.put(e)
		m.call(x)
	}
	sameEncoder(t, "P5.3", e, m)
}

// P5.2: of no states bins have no place; the other calls go on.
func TestEncoderOfNoStates(t *testing.T) {
	for _, states := range [][]int{nil, {}} {
		e, m := engine.NewEncoder(states), newEncoder(nil)
		if e.Bin(0, 0) != api.ErrEngineForm {
			t.Error("P5.2: Bin")
		}
		c := chance{3}
		for _, x := range c.calls(100, 0) {
			if x.put(e) != api.OK {
				t.Errorf("P5.2: %v", x)
			}
			m.call(x)
			sameEncoder(t, "P5.2", e, m)
		}
	}
}

// P5.2: Bytes and States behind every call, held against the model; and at the
// end the bits of the one great number.
func TestAnyBins(t *testing.T) {
	c := chance{1}
	for range 1500 {
		many := c.Below(6)
		states := c.Numbers(many, 128)
		e, m := engine.NewEncoder(states), newEncoder(states)
		all := c.calls(c.Below(120), many)
		for _, x := range all {
			if code := x.put(e); code != api.OK {
				t.Fatalf("P5.2: %v: %d", x, code)
			}
			m.call(x)
			sameEncoder(t, "P5.2: between bins", e, m)
		}
		end := bin{byTerminate, 0, 1}
		end.put(e)
		m.call(end)
		sameEncoder(t, "P5.2: the end", e, m)
		if e.Bytes() != digits.Packed(whole(all, states)) {
			t.Fatalf("P5.2: %s, want %s", digits.Spread(e.Bytes()), whole(all, states))
		}
	}
}

// P5.2: every state and either bin, behind ranges of each quarter.
func TestEveryStateEncoded(t *testing.T) {
	for state := range 128 {
		for ahead := range 60 {
			for b := range 2 {
				e, m := engine.NewEncoder([]int{state, 40}), newEncoder([]int{state, 40})
				for range ahead {
					e.Bin(1, 0)
					m.call(bin{byContext, 1, 0})
				}
				all := []bin{{byContext, 0, b}, {byContext, 0, b}, {byTerminate, 0, 1}}
				for _, x := range all {
					x.put(e)
					m.call(x)
				}
				sameEncoder(t, "P5.2", e, m)
			}
		}
	}
}

// P5.2, R5: beside an error nothing has changed.
func TestWrongPutsLeaveNothing(t *testing.T) {
	c := chance{2}
	for n := range 100 {
		states := c.Numbers(3, 128)
		e, m := engine.NewEncoder(states), newEncoder(states)
		for _, x := range c.calls(n, 3) {
			x.put(e)
			m.call(x)
		}
		for what, code := range wrongPuts(e) {
			if code != api.ErrEngineForm {
				t.Errorf("P5.2: %s: %d", what, code)
			}
		}
		sameEncoder(t, "P5.2: beside an error", e, m)
		for _, x := range append(c.calls(20, 3), bin{byTerminate, 0, 1}) {
			x.put(e)
			m.call(x)
			sameEncoder(t, "P5.2: behind an error", e, m)
		}
	}
}

// P5.2: behind a Terminate of 1 each call is an error; Bytes and States stay.
func TestEncoderHasEnded(t *testing.T) {
	c := chance{4}
	for n := range 30 {
		e := engine.NewEncoder(c.Numbers(3, 128))
		for _, x := range c.calls(n, 3) {
			x.put(e)
		}
		e.Terminate(1)
		told, states := e.Bytes(), e.States()
		for range 2 {
			for _, calls := range []map[string]api.Errno{rightPuts(e), wrongPuts(e)} {
				for what, code := range calls {
					if code != api.ErrEngineForm {
						t.Errorf("P5.2: %s: %d", what, code)
					}
				}
			}
		}
		if e.Bytes() != told || !slices.Equal(e.States(), states) {
			t.Error("P5.2: behind the end")
		}
	}
}

// waits: bypasses behind which many bits are outstanding.
func waits(t *testing.T, many int) []bin {
	t.Helper()
	all, low := []bin{{byBypass, 0, 1}}, 510
	for range many {
		b := 0
		// A low of 0 would be one behind which nothing waits any more.
		if low <= 256 {
			b = 1
		}
		if low = 2*low + 510*b; low <= 512 || low >= 1024 {
			t.Fatal("no way to let bits wait")
		}
		low -= 512
		all = append(all, bin{byBypass, 0, b})
	}
	return all
}

// P5.2: bits that are outstanding for long are no part of Bytes, and come to
// all 1 or all 0 at last.
func TestBitsThatWait(t *testing.T) {
	for _, many := range []int{1, 7, 8, 9, 64, 65, 70000} {
		all := waits(t, many)
		for _, behind := range []bin{{byBypass, 0, 0}, {byBypass, 0, 1}, {byContext, 0, 0}, {byContext, 0, 1}, {byTerminate, 0, 0}, {byTerminate, 0, 1}} {
			e, m := engine.NewEncoder([]int{5}), newEncoder([]int{5})
			for _, x := range all {
				x.put(e)
				m.call(x)
			}
			if m.waiting != many || e.Bytes() != "" {
				t.Fatalf("P5.2: %d bits wait, %d bytes are told", m.waiting, len(e.Bytes()))
			}
			sameEncoder(t, "P5.2: waiting", e, m)
			rest := []bin{behind}
			if behind.b == 0 || behind.kind != byTerminate {
				rest = append(rest, behind, behind, bin{byTerminate, 0, 1})
			}
			for _, x := range rest {
				x.put(e)
				m.call(x)
				sameEncoder(t, "P5.2: behind", e, m)
			}
			if want := digits.Packed(whole(append(all, rest[:len(rest)-1]...), []int{5})); e.Bytes() != want {
				t.Fatalf("P5.2: behind %d bits that waited", many)
			}
		}
	}
}

// P5.2: a carry turns bits that waited to noughts, none leaves them ones.
func TestBothTurns(t *testing.T) {
	all := waits(t, 100)
	seen := map[string]int{}
	for _, more := range []int{0, 1} {
		m := newEncoder(nil)
		for _, x := range all {
			m.call(x)
		}
		for range 20 {
			m.call(bin{byBypass, 0, more})
		}
		for _, run := range []string{"1" + strings.Repeat("0", 90), "0" + strings.Repeat("1", 90)} {
			if strings.Contains("0"+string(m.bits), run) {
				seen[run]++
			}
		}
		e := engine.NewEncoder(nil)
		for _, x := range all {
			x.put(e)
		}
		for range 20 {
			e.Bypass(more)
		}
		sameEncoder(t, "P5.2", e, m)
	}
	if len(seen) != 2 {
		t.Errorf("turns: %v", seen)
	}
}

// P5.2: Bytes and States ask only.
func TestBytesChangesNothing(t *testing.T) {
	c := chance{6}
	states := c.Numbers(4, 128)
	asked, left := engine.NewEncoder(states), engine.NewEncoder(states)
	for _, x := range append(c.calls(300, 4), bin{byTerminate, 0, 1}) {
		x.put(asked)
		x.put(left)
		if asked.Bytes() != asked.Bytes() || !slices.Equal(asked.States(), asked.States()) {
			t.Error("P5.2: twice")
		}
	}
	if asked.Bytes() != left.Bytes() || !slices.Equal(asked.States(), left.States()) {
		t.Error("P5.2")
	}
}

// P5.2: more contexts than the whole program has.
func TestManyContexts(t *testing.T) {
	c := chance{8}
	for _, many := range []int{255, 256, 257, 600} {
		states := c.Numbers(many, 128)
		e, m := engine.NewEncoder(states), newEncoder(states)
		if e.Bin(many, 0) != api.ErrEngineForm {
			t.Errorf("P5.2: %d", many)
		}
		var all []bin
		for ctx := range many {
			all = append(all, bin{byContext, ctx, ctx % 2}, bin{byContext, many - 1 - ctx, 1})
		}
		for _, x := range append(all, bin{byTerminate, 0, 1}) {
			x.put(e)
			m.call(x)
		}
		sameEncoder(t, "P5.2", e, m)
		d, _ := engine.NewDecoder(e.Bytes(), states)
		for _, x := range all {
			if b, code := d.Bin(x.ctx); b != x.b || code != api.OK {
				t.Fatalf("P5.4: %v: %d, %d", x, b, code)
			}
		}
		if b, code := d.Terminate(); b != 1 || code != api.OK || !slices.Equal(d.States(), e.States()) {
			t.Errorf("P5.4: %d contexts", many)
		}
	}
}

// R3: a nil Encoder, whatever it is handed.
func TestNilEncoder(t *testing.T) {
	var e *engine.Encoder
	for _, calls := range []map[string]api.Errno{rightPuts(e), wrongPuts(e)} {
		for what, code := range calls {
			if code != api.ErrNil {
				t.Errorf("R3: %s: %d", what, code)
			}
		}
	}
	if e.Bytes() != "" || len(e.States()) != 0 {
		t.Error("R3")
	}
}

// R1: an Encoder that NewEncoder did not make takes nothing.
func TestBareEncoder(t *testing.T) {
	e := new(engine.Encoder)
	for _, calls := range []map[string]api.Errno{rightPuts(e), wrongPuts(e)} {
		for what, code := range calls {
			if code != api.ErrEngineForm {
				t.Errorf("R1: %s: %d", what, code)
			}
		}
	}
	if e.Bytes() != "" || len(e.States()) != 0 {
		t.Error("R1")
	}
}
