package nal_test

import (
	"strings"
	"testing"

	"zoetrope/api"
	"zoetrope/nal"
)

// asksUnescape holds Unescape against the one text that it may tell, if there is one.
func asksUnescape(t *testing.T, s, want string, is bool) {
	t.Helper()
	code := api.ErrNalForm
	if is {
		code = api.OK
	}
	if got, e := nal.Unescape(s); got != want || e != code {
		t.Errorf("P2.1: Unescape of %q: %q, %d, want %q, %d", s, got, e, want, code)
	}
}

// P2.1: texts as the chapter writes them.
func TestEscapedTexts(t *testing.T) {
	for _, c := range []struct{ s, want string }{
		{"", ""},
		{"zoetrope", "zoetrope"},
		{"\x00", "\x00"},
		{"\x03", "\x03"},
		{"\x00\x03", "\x00\x03"},
		{"\x00\x00", "\x00\x00"},
		{"\x00\x00\x00", "\x00\x00\x03\x00"},
		{"\x00\x00\x01", "\x00\x00\x03\x01"},
		{"\x00\x00\x02", "\x00\x00\x03\x02"},
		{"\x00\x00\x03", "\x00\x00\x03\x03"},
		{"\x00\x00\x04", "\x00\x00\x04"},
		{"\x00\x00\xff\x01", "\x00\x00\xff\x01"},
		{"\x00\x01\x00\x01", "\x00\x01\x00\x01"},
		{"\x00\x00\x00\x00", "\x00\x00\x03\x00\x00"},
		{"\x00\x00\x00\x00\x00", "\x00\x00\x03\x00\x00\x03\x00"},
		{"\x00\x00\x00\x01", "\x00\x00\x03\x00\x01"},
		{"\x00\x00\x00\x00\x01", "\x00\x00\x03\x00\x00\x03\x01"},
		{"\x00\x00\x03\x00\x00\x03", "\x00\x00\x03\x03\x00\x00\x03\x03"},
		{"a\x00\x00\x01b\x00\x00\x02c", "a\x00\x00\x03\x01b\x00\x00\x03\x02c"},
	} {
		if got := nal.Escape(c.s); got != c.want {
			t.Errorf("P2.1: Escape of %q: %q, want %q", c.s, got, c.want)
		}
		asksUnescape(t, c.want, c.s, true)
	}
}

// P2.1: what Escape writes of nothing: a guard that guards nothing, one at the
// end, one that is missing.
func TestUnescapedWrong(t *testing.T) {
	for _, s := range []string{
		"\x00\x00\x00",
		"\x00\x00\x01",
		"\x00\x00\x02",
		"\x00\x00\x03",
		"\x00\x00\x03\x04",
		"\x00\x00\x03\x80",
		"\x00\x00\x03\xff",
		"\x00\x00\x03\x00\x00\x03",
		"\x00\x00\x03\x00\x00\x00",
		"\x00\x00\x03\x03\x00\x00\x02",
		"good\x00\x00\x03\x01good\x00\x00\x01",
		"good\x00\x00\x03",
		"\x00\x00\x00\x03\x01",
	} {
		asksUnescape(t, s, "", false)
	}
}

// P2.1: each byte behind two bytes 0, and behind a guard.
func TestEscapedBytes(t *testing.T) {
	for i := range 256 {
		c := string([]byte{byte(i)})
		for _, s := range []string{c, "\x00" + c, "\x00\x00" + c, "\x00\x00" + c + "x", "\x00\x00\x00" + c, c + "\x00\x00", "\x00\x00" + c + "\x00\x00" + c} {
			if got := nal.Escape(s); got != wantEscaped(s) {
				t.Errorf("P2.1: Escape of %q: %q", s, got)
			}
		}
		if i <= 3 {
			asksUnescape(t, "\x00\x00"+c, "", false)
			asksUnescape(t, "\x00\x00\x03"+c, "\x00\x00"+c, true)
		} else {
			asksUnescape(t, "\x00\x00"+c, "\x00\x00"+c, true)
			asksUnescape(t, "\x00\x00\x03"+c, "", false)
		}
	}
}

// P2.1: every text of up to seven small bytes: what Escape writes is the
// model's, has no start, and is no other's; what Unescape tells is just what
// was escaped, and an error of all that nothing is escaped to.
func TestEscapedAll(t *testing.T) {
	all, of := texts(7), map[string]string{}
	for _, s := range all {
		x := nal.Escape(s)
		if x != wantEscaped(s) || strings.Contains(x, begin) {
			t.Fatalf("P2.1: Escape of %q: %q", s, x)
		}
		if was, is := of[x]; is {
			t.Fatalf("P2.1: %q of %q and of %q", x, was, s)
		}
		of[x] = s
	}
	for _, x := range all {
		s, is := of[x]
		asksUnescape(t, x, s, is)
	}
}

// P2.1: longer texts, of all bytes, there and back; and what Unescape takes of
// any bytes, back and there.
func TestEscapedAnything(t *testing.T) {
	c := chance{2}
	for range 20000 {
		s := c.text(60)
		x := nal.Escape(s)
		if x != wantEscaped(s) {
			t.Fatalf("P2.1: Escape of %q: %q", s, x)
		}
		asksUnescape(t, x, s, true)
		if back, e := nal.Unescape(s); e == api.OK && nal.Escape(back) != s || e != api.OK && back != "" {
			t.Fatalf("P2.1: Unescape of %q: %q, %d", s, back, e)
		}
	}
}

// Size: long texts of bytes 0, with as many guards as may be.
func TestEscapedLong(t *testing.T) {
	for _, size := range []int{api.MaxBytes - 1, api.MaxBytes, 16 * api.MaxBytes} {
		s := strings.Repeat("\x00", size)
		want := strings.Repeat("\x00\x00\x03", (size-1)/2) + strings.Repeat("\x00", size-(size-1)/2*2)
		x := nal.Escape(s)
		if x != want {
			t.Fatalf("P2.1: Escape of %d bytes 0: %d bytes", size, len(x))
		}
		if back, e := nal.Unescape(x); back != s || e != api.OK {
			t.Fatalf("P2.1: Unescape of %d bytes: %d bytes, %d", len(x), len(back), e)
		}
	}
}
