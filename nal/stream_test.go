package nal_test

import (
	"math"
	"slices"
	"strings"
	"sync"
	"testing"

	"zoetrope/api"
	"zoetrope/dice"
	"zoetrope/nal"
)

// asksSplit holds Split against what is asked of it.
func asksSplit(t *testing.T, s string, want []string, code api.Errno) {
	t.Helper()
	if got, e := nal.Split(s); !slices.Equal(got, want) || e != code {
		t.Errorf("P2.3: Split of %s: %s, %d, want %s, %d", shown(s), shown(got), e, shown(want), code)
	}
}

// P2.3: of each unit a start and its Pack; of none, nothing.
func TestJoined(t *testing.T) {
	for _, c := range []struct {
		us   []api.Unit
		want string
	}{
		{nil, ""},
		{[]api.Unit{}, ""},
		{[]api.Unit{{Type: 1}}, begin + "\x01"},
		{[]api.Unit{{Ref: 3, Type: 7, Rbsp: "a"}, {Ref: 3, Type: 8}, {Type: 10, Rbsp: "b"}}, begin + "\x67a" + begin + "\x68" + begin + "\x0ab"},
		{[]api.Unit{{Type: 1, Rbsp: "\x00\x00"}, {Type: 1, Rbsp: "\x00\x00\x01"}}, begin + "\x01\x00\x00" + begin + "\x01\x00\x00\x03\x01"},
	} {
		if got, e := nal.Join(c.us); got != c.want || e != api.OK {
			t.Errorf("P2.3: Join of %s: %s, %d", shown(c.us), shown(got), e)
		}
	}
}

// P2.3, R2: a unit that Pack doesn't take, ahead of others, behind them, alone.
func TestJoinedWrong(t *testing.T) {
	good := api.Unit{Ref: 1, Type: 1, Rbsp: "good"}
	for _, bad := range []api.Unit{{}, {Type: 32}, {Type: -1}, {Ref: 4, Type: 1}, {Ref: -1, Type: 1}, {Ref: math.MaxInt, Type: math.MinInt}} {
		for _, us := range [][]api.Unit{{bad}, {bad, good}, {good, bad}, {good, bad, good}, {bad, bad}} {
			if got, e := nal.Join(us); got != "" || e != api.ErrNalForm {
				t.Errorf("P2.3: Join of %s: %s, %d", shown(us), shown(got), e)
			}
		}
	}
}

// P2.3: what stands between starts: nothing, too, and bytes 0 at a piece's end.
func TestSplit(t *testing.T) {
	for _, c := range []struct {
		s    string
		want []string
	}{
		{"", nil},
		{begin, []string{""}},
		{begin + begin, []string{"", ""}},
		{begin + "a" + begin, []string{"a", ""}},
		{begin + begin + "a", []string{"", "a"}},
		{begin + "abc", []string{"abc"}},
		{begin + "abc" + begin + "d", []string{"abc", "d"}},
		{begin + "a\x00" + begin + "b", []string{"a\x00", "b"}},
		{begin + "a\x00\x00\x00" + begin + "\x00\x00", []string{"a\x00\x00\x00", "\x00\x00"}},
		{begin + "\x00" + begin + "\x01", []string{"\x00", "\x01"}},
		{begin + "\x01\x00\x01\x00\x00\x02\x00\x00", []string{"\x01\x00\x01\x00\x00\x02\x00\x00"}},
		{begin + "\x00\x00\x03\x01", []string{"\x00\x00\x03\x01"}},
	} {
		asksSplit(t, c.s, c.want, api.OK)
	}
}

// P2.3: what is not empty and doesn't begin with a start.
func TestSplitWithoutStart(t *testing.T) {
	for _, s := range []string{"x", "\x00", "\x00\x00", "\x00\x00\x02", "\x00\x00\x03\x01", "\x00\x00\x00\x01", "\x01", "\x00\x01", "x" + begin, "\x00" + begin + "a" + begin} {
		asksSplit(t, s, nil, api.ErrNalStart)
	}
}

// P2.3: every text of up to seven small bytes, and the same behind a start,
// held against strings' own cut.
func TestSplitAll(t *testing.T) {
	for _, s := range texts(7) {
		switch rest, is := strings.CutPrefix(s, begin); {
		case s == "":
			asksSplit(t, s, nil, api.OK)
		case !is:
			asksSplit(t, s, nil, api.ErrNalStart)
		default:
			asksSplit(t, s, strings.Split(rest, begin), api.OK)
		}
		asksSplit(t, begin+s, strings.Split(s, begin), api.OK)
	}
}

// backFromStream tells whether units, joined, are split into their Packs, and
// these read as what they were.
func backFromStream(t *testing.T, us []api.Unit) bool {
	t.Helper()
	s, code := nal.Join(us)
	pieces, splits := nal.Split(s)
	if code != api.OK || splits != api.OK || len(pieces) != len(us) {
		t.Errorf("P2.4: %s: %s, %d, %d pieces, %d", shown(us), shown(s), code, len(pieces), splits)
		return false
	}
	for i, u := range us {
		packed, e := nal.Pack(u)
		back, code := nal.Unpack(pieces[i])
		if e != api.OK || code != api.OK || pieces[i] != packed || packed != wantPacked(u) || back != u {
			t.Errorf("P2.4: unit %d of %s: %s, %s", i, shown(us), shown(pieces[i]), shown(back))
			return false
		}
	}
	return true
}

// P2.4: no unit, and each two of small ones.
func TestPairsBack(t *testing.T) {
	backFromStream(t, nil)
	all := texts(3)
	for _, a := range all {
		for _, b := range all {
			if !backFromStream(t, []api.Unit{{Ref: 1, Type: 1, Rbsp: a}, {Type: 31, Rbsp: b}}) {
				return
			}
		}
	}
}

// P2.4: rows of any units.
func TestRowsBack(t *testing.T) {
	c := chance{6}
	for range 2000 {
		us := make([]api.Unit, c.Below(20))
		for i := range us {
			us[i] = c.unit(1 << c.Below(8))
		}
		if !backFromStream(t, us) {
			return
		}
	}
}

// Size: streams of many small units, of one great one, of bytes 0 alone.
func TestLongStreams(t *testing.T) {
	many := make([]api.Unit, api.MaxBytes)
	for i := range many {
		many[i] = api.Unit{Ref: i % 4, Type: 1 + i%31, Rbsp: strings.Repeat("\x00", i%4)}
	}
	backFromStream(t, many)
	backFromStream(t, []api.Unit{{Ref: 3, Type: 5, Rbsp: strings.Repeat("\x00", 16*api.MaxBytes)}, {Type: 10}})
	asksSplit(t, strings.Repeat(begin, api.MaxBytes), make([]string, api.MaxBytes), api.OK)
	noughts := strings.Repeat("\x00", 16*api.MaxBytes)
	asksSplit(t, begin+noughts, []string{noughts}, api.OK)
}

// R4, R5: units that are handed in stay as they are, their spare room too, and
// a second call answers the same.
func TestJoinChangesNothing(t *testing.T) {
	us := []api.Unit{{Ref: 1, Type: 1, Rbsp: "\x00\x00\x01"}, {Type: 9, Rbsp: "b"}, {Type: 8, Rbsp: "c"}, {Type: 7, Rbsp: "spare"}}
	kept := slices.Clone(us)
	first, _ := nal.Join(us[:2])
	second, e := nal.Join(us[:2])
	if first != second || e != api.OK || !slices.Equal(us, kept) {
		t.Errorf("R4: %s, %s, %s", shown(us), shown(first), shown(second))
	}
}

// R5: calls from several goroutines at one time.
func TestSeveralAtOnce(t *testing.T) {
	var all sync.WaitGroup
	for k := range 8 {
		all.Go(func() {
			c := chance{dice.Dice(k)}
			for range 200 {
				backFromStream(t, []api.Unit{c.unit(100), c.unit(100), c.unit(100)})
			}
		})
	}
	all.Wait()
}
