package nal

import (
	"strings"

	"zoetrope/api"
)

const (
	guard   = 3 // goes ahead of a byte that would make a start, and of itself
	guarded = 3 // the greatest byte that a guard goes ahead of
	enough  = 2 // bytes 0 behind which a guard is asked for
)

// Escape writes s so that no start of a unit stands in it.
func Escape(s string) string {
	var b strings.Builder
	b.Grow(len(s))
	putEscaped(&b, s)
	return b.String()
}

// putEscaped writes s in whole stretches, each ending ahead of a guard.
func putEscaped(b *strings.Builder, s string) {
	noughts, from := 0, 0
	for i := range len(s) {
		if noughts == enough && s[i] <= guarded {
			b.WriteString(s[from:i])
			b.WriteByte(guard)
			noughts, from = 0, i
		}
		noughts = noughtsBehind(noughts, s[i])
	}
	b.WriteString(s[from:])
}

// Unescape tells what Escape wrote s of, if it wrote it.
func Unescape(s string) (string, api.Errno) {
	var b strings.Builder
	b.Grow(len(s))
	noughts, from, guards := 0, 0, false
	for i := range len(s) {
		c := s[i]
		// A guard that guards nothing is as wrong as one that is missing.
		if guards && c > guarded || noughts == enough && c <= guarded && c != guard {
			return "", api.ErrNalForm
		}
		guards = noughts == enough && c == guard
		if guards {
			b.WriteString(s[from:i])
			from = i + 1
		}
		noughts = noughtsBehind(noughts, c)
	}
	if guards {
		return "", api.ErrNalForm
	}
	b.WriteString(s[from:])
	return b.String(), api.OK
}

// noughtsBehind: how many bytes 0 stand together at the end, once c is written
// behind so many.
func noughtsBehind(noughts int, c byte) int {
	if c == 0 {
		return noughts + 1
	}
	return 0
}
