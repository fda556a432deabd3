package bins_test

import (
	"math"
	"slices"
	"testing"

	"zoetrope/api"
	"zoetrope/bins"
	"zoetrope/engine"
)

// stateOf: the beginning of a context, by the chapter's words.
func stateOf(c, qp int) int {
	qp = max(0, min(51, qp))
	m := (7*c + 5) % 41
	m -= 20
	k := 40 + (13*c)%48
	x := k + int(math.Floor(float64(m*qp)/16))
	if x < 1 {
		x = 1
	}
	if x > 126 {
		x = 126
	}
	if x < 64 {
		return 2 * (63 - x)
	}
	return 2*(x-64) + 1
}

// P6.2: every context of every qp, and of qps below and above those there are.
func TestInit(t *testing.T) {
	qps := []int{math.MinInt, math.MinInt + 1, math.MinInt32, -256, -100, -52, -1, 52, 53, 100, 256, math.MaxInt32, math.MaxInt - 1, math.MaxInt}
	for qp := range 52 {
		qps = append(qps, qp)
	}
	for _, qp := range qps {
		got := bins.Init(qp)
		if len(got) != 256 || api.Contexts != 256 {
			t.Fatalf("P6.2: qp %d: %d", qp, len(got))
		}
		for c, state := range got {
			if state != stateOf(c, qp) {
				t.Errorf("P6.2: qp %d, context %d: %d, want %d", qp, c, state, stateOf(c, qp))
			}
		}
	}
}

// P6.2: some beginnings worked out by hand: of m below, at and above 0, of x at
// 63 and 64, and of an x below the least; and how far out they come.
func TestSomeBeginnings(t *testing.T) {
	for _, c := range []struct{ ctx, qp, want int }{
		{0, 0, 46}, {0, 1, 48}, {0, 17, 78}, {0, 51, 124}, // m -15, k 40: x 40, 39, 24, -8
		{2, 0, 5}, {2, 16, 3}, {2, 17, 1}, {2, 32, 1}, {2, 33, 0}, {2, 48, 0}, {2, 49, 2}, // m -1, k 66: x 66, 65, 64, 64, 63, 63, 62
		{8, 0, 30}, {8, 51, 30}, // m 0, k 48
		{5, 26, 51}, {5, 51, 113}, // m 20, k 57: x 89, 120
	} {
		if got := bins.Init(c.qp)[c.ctx]; got != c.want {
			t.Errorf("P6.2: %v: %d", c, got)
		}
	}
	least, most := 0, 0
	for qp := range 52 {
		for _, state := range bins.Init(qp) {
			switch state {
			case 124:
				least++
			case 125:
				most++
			case 126, 127:
				t.Errorf("P6.2: qp %d: %d", qp, state)
			}
		}
	}
	if least < 10 || most < 10 {
		t.Errorf("P6.2: at the ends: %d, %d", least, most)
	}
}

// P6.2: an engine begins with them as they are.
func TestInitBeginsEngines(t *testing.T) {
	for _, qp := range []int{-1, 0, 26, 51, 52} {
		if got := engine.NewEncoder(bins.Init(qp)).States(); !slices.Equal(got, bins.Init(qp)) {
			t.Errorf("P6.2: qp %d: %v", qp, got)
		}
	}
}

// R4: each answer is new memory.
func TestInitIsOnesOwn(t *testing.T) {
	one, other := bins.Init(30), bins.Init(30)
	kept := slices.Clone(other)
	room := one[:cap(one)]
	for i := range room {
		room[i] = -5
	}
	if !slices.Equal(other, kept) || !slices.Equal(bins.Init(30), kept) {
		t.Error("R4: shared")
	}
}
