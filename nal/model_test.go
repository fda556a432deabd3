package nal_test

import (
	"bytes"
	"fmt"

	"zoetrope/api"
	"zoetrope/dice"
)

// The model says by the chapter's words alone what stands where.

const begin = "\x00\x00\x01"

// wantEscaped: behind what ends in two bytes 0, as it is written, a 3 ahead of
// a byte from 0 to 3.
func wantEscaped(s string) string {
	var out []byte
	for i := range len(s) {
		if bytes.HasSuffix(out, []byte{0, 0}) && s[i] <= 3 {
			out = append(out, 3)
		}
		out = append(out, s[i])
	}
	return string(out)
}

// wantPacked: a byte Ref times 32 and Type, and the bytes escaped.
func wantPacked(u api.Unit) string {
	return string([]byte{byte(32*u.Ref + u.Type)}) + wantEscaped(u.Rbsp)
}

// shown: what is held against each other, quoted, and no more of it than can be read.
func shown(x any) string {
	return fmt.Sprintf("%.300s", fmt.Sprintf("%q", x))
}

// texts: all of at most most bytes from 0 to 4, the shorter ahead.
func texts(most int) []string {
	all := []string{""}
	for from := 0; most > 0; most-- {
		till := len(all)
		for _, s := range all[from:till] {
			for c := range 5 {
				all = append(all, s+string([]byte{byte(c)}))
			}
		}
		from = till
	}
	return all
}

// chance is a row of numbers, and what is made of them.
type chance struct{ dice.Dice }

// text: up to most bytes, most of them small.
func (c *chance) text(most int) string {
	out := make([]byte, c.Below(most+1))
	for i := range out {
		out[i] = byte(max(0, c.Below(7)-2))
		if c.Below(16) == 0 {
			out[i] = byte(c.Below(256))
		}
	}
	return string(out)
}

// unit: any that may be packed.
func (c *chance) unit(most int) api.Unit {
	return api.Unit{Ref: c.Below(4), Type: 1 + c.Below(31), Rbsp: c.text(most)}
}
