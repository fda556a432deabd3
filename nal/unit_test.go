package nal_test

import (
	"math"
	"testing"

	"zoetrope/api"
	"zoetrope/nal"
)

// asksPack holds Pack against what is asked of it.
func asksPack(t *testing.T, u api.Unit, want string, code api.Errno) {
	t.Helper()
	if got, e := nal.Pack(u); got != want || e != code {
		t.Errorf("P2.2: Pack of %s: %s, %d, want %s, %d", shown(u), shown(got), e, shown(want), code)
	}
}

// asksUnpack holds Unpack against what is asked of it.
func asksUnpack(t *testing.T, s string, want api.Unit, code api.Errno) {
	t.Helper()
	if got, e := nal.Unpack(s); got != want || e != code {
		t.Errorf("P2.2: Unpack of %s: %s, %d, want %s, %d", shown(s), shown(got), e, shown(want), code)
	}
}

// P2.2: units as the chapter writes them, and back.
func TestPackedUnits(t *testing.T) {
	for _, c := range []struct {
		u    api.Unit
		want string
	}{
		{api.Unit{Ref: 3, Type: api.UnitSps, Rbsp: "x"}, "\x67x"},
		{api.Unit{Ref: 3, Type: api.UnitPps, Rbsp: "xyz"}, "\x68xyz"},
		{api.Unit{Ref: 2, Type: api.UnitKey}, "\x45"},
		{api.Unit{Ref: 1, Type: api.UnitSlice, Rbsp: "\x00\x00\x01"}, "\x21\x00\x00\x03\x01"},
		{api.Unit{Ref: 0, Type: api.UnitEnd, Rbsp: "\x00\x00"}, "\x0a\x00\x00"},
		{api.Unit{Ref: 0, Type: 1, Rbsp: "\x00\x01"}, "\x01\x00\x01"},
		{api.Unit{Ref: 0, Type: 31}, "\x1f"},
		{api.Unit{Ref: 3, Type: 31, Rbsp: "\xff"}, "\x7f\xff"},
	} {
		asksPack(t, c.u, c.want, api.OK)
		asksUnpack(t, c.want, c.u, api.OK)
	}
}

// P2.2: each Ref and Type in and around what may be.
func TestPackedNumbers(t *testing.T) {
	far := []int{math.MinInt, math.MinInt + 1, -1 << 58, -1 << 32, -32, 32, 64, 1 << 32, 1 << 58, 1<<59 + 1, math.MaxInt}
	near := func(to int) []int {
		row := append([]int{}, far...)
		for x := -2; x <= to; x++ {
			row = append(row, x)
		}
		return row
	}
	for _, ref := range near(6) {
		for _, kind := range near(34) {
			u := api.Unit{Ref: ref, Type: kind, Rbsp: "r\x00\x00\x00"}
			if ref >= 0 && ref <= 3 && kind >= 1 && kind <= 31 {
				asksPack(t, u, wantPacked(u), api.OK)
			} else {
				asksPack(t, u, "", api.ErrNalForm)
			}
		}
	}
}

// P2.2: each first byte, with a rest that may be, none, and one that may not.
func TestUnpackedBytes(t *testing.T) {
	for i := range 256 {
		first := string([]byte{byte(i)})
		ref, kind, code := i/32, i%32, api.OK
		if i >= 128 || kind == 0 {
			ref, kind, code = 0, 0, api.ErrNalForm
		}
		asksUnpack(t, first, api.Unit{Ref: ref, Type: kind}, code)
		if code == api.OK {
			asksUnpack(t, first+"a\x00\x00\x03\x00", api.Unit{Ref: ref, Type: kind, Rbsp: "a\x00\x00\x00"}, code)
		} else {
			asksUnpack(t, first+"a\x00\x00\x03\x00", api.Unit{}, code)
		}
		for _, rest := range []string{"\x00\x00\x00", "\x00\x00\x01", "\x00\x00\x02", "\x00\x00\x03", "\x00\x00\x03\x04", "abc\x00\x00\x03\xff"} {
			asksUnpack(t, first+rest, api.Unit{}, api.ErrNalForm)
		}
	}
}

// P2.2: no bytes are another fault than wrong ones.
func TestUnpackedEmpty(t *testing.T) {
	asksUnpack(t, "", api.Unit{}, api.ErrNalEmpty)
}

// P2.2: the bytes 0 that a unit's first byte may not be don't count for the rest.
func TestFirstByteIsNoPartOfTheRest(t *testing.T) {
	for _, rest := range []string{"\x00\x01", "\x00\x02", "\x00\x03", "\x01", "\x03"} {
		u := api.Unit{Ref: 1, Type: 1, Rbsp: rest}
		asksPack(t, u, "\x21"+rest, api.OK)
		asksUnpack(t, "\x21"+rest, u, api.OK)
		asksUnpack(t, "\x00"+rest, api.Unit{}, api.ErrNalForm)
	}
}

// P2.2: any units there and back, any bytes back and there.
func TestPackedAnything(t *testing.T) {
	c := chance{4}
	for range 10000 {
		u := c.unit(40)
		want := wantPacked(u)
		asksPack(t, u, want, api.OK)
		asksUnpack(t, want, u, api.OK)
		s := c.text(20)
		u, e := nal.Unpack(s)
		if e == api.OK {
			asksPack(t, u, s, api.OK)
		} else if u != (api.Unit{}) || (e == api.ErrNalEmpty) != (s == "") {
			t.Fatalf("P2.2: Unpack of %s: %s, %d", shown(s), shown(u), e)
		}
	}
}
