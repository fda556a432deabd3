package params_test

import (
	"strings"
	"testing"

	"zoetrope/api"
	"zoetrope/digits"
	"zoetrope/params"
)

// asksGetSps holds GetSps against what is asked of it.
func asksGetSps(t *testing.T, x string, want api.Sps, code api.Errno) {
	t.Helper()
	if got, e := params.GetSps(x); shown(got) != shown(want) || e != code {
		t.Errorf("P3.2: GetSps of %.99q: %s, %d, want %s, %d", x, shown(got), e, shown(want), code)
	}
}

// asksGetPps holds GetPps against what is asked of it.
func asksGetPps(t *testing.T, x string, want api.Pps, code api.Errno) {
	t.Helper()
	if got, e := params.GetPps(x); got != want || e != code {
		t.Errorf("P3.2: GetPps of %.99q: %+v, %d, want %+v, %d", x, got, e, want, code)
	}
}

// P3.2: parameters as the chapter writes them, bit by bit, and back.
func TestWrittenSps(t *testing.T) {
	for _, c := range []struct {
		s   api.Sps
		row string
	}{
		{api.Sps{Wide: 1, High: 1, FrameBits: 4, PocType: 0, PocBits: 4, Refs: 1}, "1 1 1 1 1 010 1"},
		{api.Sps{Wide: 8, High: 7, FrameBits: 8, PocType: 0, PocBits: 8, Refs: 8, Delay: 8}, "0001000 00111 00101 1 00101 0001001 0001001"},
		{api.Sps{Wide: 2, High: 3, FrameBits: 5, PocType: 1, PocBits: 4, Refs: 2, Delay: 1}, "010 011 010 010 1 1 011 010"},
		{api.Sps{Wide: 2, High: 3, FrameBits: 5, PocType: 1, PocBits: 4, NonRef: -2, Cycle: []int{1, -1, 0, 3}, Refs: 2, Delay: 1},
			"010 011 010 010 00101 00101 010 011 1 00110 011 010"},
		{api.Sps{Wide: 1, High: 1, FrameBits: 4, PocType: 1, PocBits: 4, NonRef: 1000, Cycle: []int{-1000}, Refs: 1},
			"1 1 1 010 000000000011111010000 010 000000000011111010001 010 1"},
		{api.Sps{Wide: 4, High: 5, FrameBits: 6, PocType: 2, PocBits: 4, Refs: 3}, "00100 00101 011 011 00100 1"},
	} {
		x := trailed(strings.ReplaceAll(c.row, " ", ""))
		if got, code := params.PutSps(c.s); got != x || code != api.OK {
			t.Errorf("P3.2: PutSps of %s: %q, %d, want %q", shown(c.s), got, code, x)
		}
		asksGetSps(t, x, c.s, api.OK)
	}
}

func TestWrittenPps(t *testing.T) {
	for _, c := range []struct {
		p   api.Pps
		row string
	}{
		{api.Pps{Active0: 1, Active1: 1}, "0 0 00 1 1 0 0 1 1"},
		{api.Pps{Cabac: true, BiPred: 1, Qp: 1, ChromaQp: 1, Constrained: true, Active0: 2, Active1: 3}, "1 0 01 010 010 1 0 010 011"},
		{api.Pps{Weighted: true, BiPred: 2, Qp: 51, ChromaQp: -12, Deblock: true, Active0: 8, Active1: 7},
			"0 1 10 00000110100 000011001 0 1 0001000 00111"},
		{api.Pps{ChromaQp: 12, Active0: 1, Active1: 8}, "0 0 00 1 000011000 0 0 1 0001000"},
	} {
		x := trailed(strings.ReplaceAll(c.row, " ", ""))
		if got, code := params.PutPps(c.p); got != x || code != api.OK {
			t.Errorf("P3.2: PutPps of %+v: %q, %d, want %q", c.p, got, code, x)
		}
		asksGetPps(t, x, c.p, api.OK)
	}
}

// asksCut holds bytes that are cut, or have more behind them, to be of no form,
// and rows of bits that are cut, with and without a trail, to what is asked.
func asksCut(t *testing.T, row string, get func(x string) api.Errno, want func(x string) api.Errno) {
	t.Helper()
	whole := trailed(row)
	for k := range whole {
		if code := get(whole[:k]); code != api.ErrParamsForm {
			t.Errorf("P3.2: %d of %q: %d", k, whole, code)
		}
	}
	for b := range 256 {
		more := whole + string([]byte{byte(b)})
		if code := get(more); code != api.ErrParamsForm {
			t.Errorf("P3.2: %q: %d", more, code)
		}
	}
	for k := range row {
		for _, x := range []string{digits.Packed(row[:k]), trailed(row[:k]), digits.Packed(row[:k] + "11"), digits.Packed(row[:k] + "1" + row[k:])} {
			if code := get(x); code != want(x) {
				t.Errorf("P3.2: %q: %d, want %d", x, code, want(x))
			}
		}
	}
}

func spsCode(x string) api.Errno {
	_, code := params.GetSps(x)
	return code
}

func ppsCode(x string) api.Errno {
	_, code := params.GetPps(x)
	return code
}

// P3.2: bytes that are cut anywhere, and bytes with more behind them.
func TestCutParams(t *testing.T) {
	c := chance{5}
	wantSps := func(x string) api.Errno {
		_, code := readSps(x)
		return code
	}
	wantPps := func(x string) api.Errno {
		_, code := readPps(x)
		return code
	}
	for _, s := range []api.Sps{counted(), cycled(), unordered()} {
		asksCut(t, spsRow(s), spsCode, wantSps)
	}
	asksCut(t, ppsRow(anyPps()), ppsCode, wantPps)
	for range 100 {
		asksCut(t, spsRow(c.sps()), spsCode, wantSps)
		asksCut(t, ppsRow(c.pps()), ppsCode, wantPps)
	}
}

// P3.2: a trail of each length, none, one that is not all noughts, and a byte too much.
func TestTrails(t *testing.T) {
	for i, c := range []struct {
		row string
		get func(x string) api.Errno
	}{
		{spsRow(counted()), spsCode},
		{spsRow(cycled()), spsCode},
		{spsRow(unordered()), spsCode},
		{ppsRow(anyPps()), ppsCode},
	} {
		last := 7 - len(c.row)%8
		for x := range 1 << (last + 1) {
			want := api.ErrParamsForm
			if x == 1<<last {
				want = api.OK
			}
			if code := c.get(digits.Packed(c.row + digits.Plain(x, last+1))); code != want {
				t.Errorf("P3.2: row %d: trail %s: %d, want %d", i, digits.Plain(x, last+1), code, want)
			}
		}
		for _, more := range []string{"\x00", "\x80", strings.Repeat("\x00", api.MaxBytes)} {
			if code := c.get(trailed(c.row) + more); code != api.ErrParamsForm {
				t.Errorf("P3.2: row %d: %d bytes more: %d", i, len(more), code)
			}
		}
	}
}

// P3.2: no byte at all, and noughts and ones without end.
func TestNoParams(t *testing.T) {
	for _, x := range []string{"", "\x00", "\x80", "\xff\xff", strings.Repeat("\x00", 4), strings.Repeat("\x00", api.MaxBytes), strings.Repeat("\xff", api.MaxBytes)} {
		asksGetSps(t, x, api.Sps{}, api.ErrParamsForm)
		asksGetPps(t, x, api.Pps{}, api.ErrParamsForm)
	}
}

// P3.2, R6: a number that no code tells is a fault of form, at each place, and
// ahead of any range; so is an end within. A number far beyond its range is not.
func TestNumbersOfNoForm(t *testing.T) {
	for i, codes := range [][]string{
		{digits.Ue(2), digits.Ue(4), digits.Ue(2), digits.Ue(0), digits.Ue(3), digits.Ue(4), digits.Ue(2)},
		{digits.Ue(2), digits.Ue(4), digits.Ue(2), digits.Ue(1), digits.Se(-7), digits.Ue(2), digits.Se(5), digits.Se(-5), digits.Ue(4), digits.Ue(2)},
		{digits.Ue(2), digits.Ue(4), digits.Ue(2), digits.Ue(2), digits.Ue(4), digits.Ue(0)},
		{digits.Ue(8), digits.Ue(4), digits.Ue(2), digits.Ue(0), digits.Ue(3), digits.Ue(9), digits.Ue(2)},
		{digits.Ue(2), digits.Ue(4), digits.Ue(2), digits.Ue(3), digits.Ue(4), digits.Ue(2)},
	} {
		for k := range codes {
			ahead := strings.Join(codes[:k], "")
			behind := strings.Join(codes[k+1:], "")
			asksGetSps(t, trailed(ahead+digits.TooLong+behind), api.Sps{}, api.ErrParamsForm)
			asksGetSps(t, digits.Packed(ahead), api.Sps{}, api.ErrParamsForm)
			if x := trailed(ahead + digits.Ue(digits.GreatestUe) + behind); i < 3 && k != 3 {
				asksGetSps(t, x, api.Sps{}, api.ErrParamsRange)
			}
		}
	}
	for _, codes := range [][]string{
		{"1001", digits.Ue(26), digits.Se(-3), "10", digits.Ue(2), digits.Ue(1)},
		{"1011", digits.Ue(52), digits.Se(-13), "10", digits.Ue(2), digits.Ue(1)},
	} {
		for k := range codes {
			ahead := strings.Join(codes[:k], "")
			behind := strings.Join(codes[k+1:], "")
			asksGetPps(t, digits.Packed(ahead), api.Pps{}, api.ErrParamsForm)
			if k != 0 && k != 3 {
				asksGetPps(t, trailed(ahead+digits.TooLong+behind), api.Pps{}, api.ErrParamsForm)
				asksGetPps(t, trailed(ahead+digits.Ue(digits.GreatestUe)+behind), api.Pps{}, api.ErrParamsRange)
			}
		}
	}
}

// P3.2: behind a number that no code tells nothing is read, though the flags
// behind it and what is behind them could be.
func TestNothingIsReadBehindAFault(t *testing.T) {
	for noughts := 31; noughts <= 34; noughts++ {
		behind := noughts - 2
		row := "1001" + strings.Repeat("0", noughts) + "1" + strings.Repeat("0", behind) + digits.Ue(0)
		asksGetPps(t, trailed(row), api.Pps{}, api.ErrParamsForm)
	}
}

// P3.2: numbers beyond each range, in bytes that are else as they may be.
func TestReadBeyondRanges(t *testing.T) {
	for _, change := range []func(s *api.Sps){
		func(s *api.Sps) { s.Wide = 9 },
		func(s *api.Sps) { s.High = 9 },
		func(s *api.Sps) { s.FrameBits = 9 },
		func(s *api.Sps) { s.Refs = 0 },
		func(s *api.Sps) { s.Refs = 9 },
		func(s *api.Sps) { s.Delay = 5 },
		func(s *api.Sps) { s.PocType = 3 },
		func(s *api.Sps) { s.PocType = digits.GreatestUe },
		func(s *api.Sps) { s.PocType, s.PocBits = 0, 9 },
		func(s *api.Sps) { s.PocType = 2 },
		func(s *api.Sps) { s.NonRef = 1001 },
		func(s *api.Sps) { s.NonRef = -1001 },
		func(s *api.Sps) { s.Cycle[0] = 1001 },
		func(s *api.Sps) { s.Cycle[3] = -1001 },
	} {
		s := cycled()
		change(&s)
		asksGetSps(t, trailed(spsRow(s)), api.Sps{}, api.ErrParamsRange)
		asksGetSps(t, digits.Packed(spsRow(s)), api.Sps{}, api.ErrParamsForm)
	}
	for _, change := range []func(p *api.Pps){
		func(p *api.Pps) { p.BiPred = 3 },
		func(p *api.Pps) { p.Qp = 52 },
		func(p *api.Pps) { p.ChromaQp = 13 },
		func(p *api.Pps) { p.ChromaQp = -13 },
		func(p *api.Pps) { p.Active0 = 9 },
		func(p *api.Pps) { p.Active1 = 9 },
	} {
		p := anyPps()
		change(&p)
		asksGetPps(t, trailed(ppsRow(p)), api.Pps{}, api.ErrParamsRange)
		asksGetPps(t, trailed(ppsRow(p))+"\x00", api.Pps{}, api.ErrParamsForm)
	}
}

// P3.2: a Cycle of each size is read; one above 4 is told at once, whatever is
// behind it, but not ahead of a fault that stands ahead of it.
func TestReadCycles(t *testing.T) {
	start := digits.Ue(0, 0, 0, 1) + digits.Se(-7)
	for many := range 5 {
		s := api.Sps{Wide: 1, High: 1, FrameBits: 4, PocType: 1, PocBits: 4, NonRef: -7, Refs: 2, Delay: 1}
		row := start + digits.Ue(many)
		for i := range many {
			s.Cycle = append(s.Cycle, 10-7*i)
			row += digits.Se(10 - 7*i)
		}
		asksGetSps(t, trailed(row+digits.Ue(2, 1)), s, api.OK)
		asksGetSps(t, digits.Packed(row), api.Sps{}, api.ErrParamsForm)
	}
	for _, many := range []int{5, 6, 1000, 1 << 20, digits.GreatestUe} {
		for _, behind := range []string{"", "1", digits.Se(1, 2, 3, 4, 5) + digits.Ue(2, 1) + "1", digits.TooLong} {
			asksGetSps(t, digits.Packed(start+digits.Ue(many)+behind), api.Sps{}, api.ErrParamsRange)
			asksGetSps(t, digits.Packed(digits.Ue(8, 9, 5, 1)+digits.Se(5000)+digits.Ue(many)+behind), api.Sps{}, api.ErrParamsRange)
			asksGetSps(t, digits.Packed(digits.Ue(0, 0, 0, 1)+digits.TooLong+digits.Ue(many)+behind), api.Sps{}, api.ErrParamsForm)
		}
	}
	asksGetSps(t, digits.Packed(start+digits.Ue(1000)[:8]), api.Sps{}, api.ErrParamsForm)
	asksGetSps(t, digits.Packed(start+digits.TooLong), api.Sps{}, api.ErrParamsForm)
	// A number that other PocTypes have in its place is no Cycle's size.
	asksGetSps(t, trailed(digits.Ue(0, 0, 0, 2)+digits.Ue(5, 0)), api.Sps{Wide: 1, High: 1, FrameBits: 4, PocType: 2, PocBits: 4, Refs: 5}, api.OK)
}

// P3.2: PocBits of another PocType is 4.
func TestReadPocBits(t *testing.T) {
	for _, from := range []func() api.Sps{cycled, unordered} {
		got, code := params.GetSps(trailed(spsRow(from())))
		if got.PocBits != 4 || code != api.OK {
			t.Errorf("P3.2: %s, %d", shown(got), code)
		}
	}
	for n := 4; n <= 8; n++ {
		s := counted()
		s.PocBits = n
		asksGetSps(t, trailed(spsRow(s)), s, api.OK)
	}
}
