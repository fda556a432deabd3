package nal_test

import (
	"slices"
	"testing"
	"unsafe"

	"zoetrope/api"
	"zoetrope/nal"
)

// shares tells whether two texts have bytes of one memory.
func shares(a, b string) bool {
	if a == "" || b == "" {
		return false
	}
	from := uintptr(unsafe.Pointer(unsafe.StringData(a)))
	at := uintptr(unsafe.Pointer(unsafe.StringData(b)))
	return from < at+uintptr(len(b)) && at < from+uintptr(len(a))
}

// R4: no answer shares memory with the text that was handed in.
func TestAnswersAreNewMemory(t *testing.T) {
	for _, s := range []string{"plain text", "x", "a\x00\x00\x04", "\x21plain"} {
		back, _ := nal.Unescape(s)
		packed, _ := nal.Pack(api.Unit{Type: 1, Rbsp: s})
		unpacked, _ := nal.Unpack("\x21" + s)
		for i, got := range []string{nal.Escape(s), back, packed, unpacked.Rbsp} {
			if got == "" || shares(got, s) {
				t.Errorf("R4: call %d of %q", i, s)
			}
		}
		if u, e := nal.Unpack(s); e == api.OK && shares(u.Rbsp, s) {
			t.Errorf("R4: Unpack of %q", s)
		}
	}
}

// R4: pieces of a stream share memory neither with it nor with each other.
func TestPiecesAreNewMemory(t *testing.T) {
	s := begin + "first piece" + begin + "second" + begin + begin + "x"
	pieces, _ := nal.Split(s)
	again, _ := nal.Split(s)
	if len(pieces) != 4 || !slices.Equal(pieces, again) {
		t.Fatalf("P2.3: %q, %q", pieces, again)
	}
	for i, piece := range pieces {
		if shares(piece, s) || shares(piece, again[i]) || i > 0 && shares(piece, pieces[i-1]) {
			t.Errorf("R4: piece %d", i)
		}
	}
	again[0] = "other"
	if pieces[0] != "first piece" {
		t.Error("R4: two answers")
	}
}
