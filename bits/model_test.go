package bits_test

import (
	"strconv"
	"strings"

	"zoetrope/api"
	"zoetrope/bits"
	"zoetrope/dice"
)

// The model writes bits as a text of '0' and '1', by the chapter's words alone.

const (
	greatestUe = 1<<31 - 2
	greatestSe = 1<<30 - 1
)

// plain: x as n bits.
func plain(x, n int) string {
	digits := strconv.FormatInt(int64(x), 2)
	if n == 0 {
		return ""
	}
	return strings.Repeat("0", n-len(digits)) + digits
}

// ue: x + 1 in digits, ahead of it as many noughts as digits behind its first.
func ue(x int) string {
	digits := strconv.FormatInt(int64(x)+1, 2)
	return strings.Repeat("0", len(digits)-1) + digits
}

// se: Ue of 2 x - 1 above 0, else of -2 x.
func se(x int) string {
	if x > 0 {
		return ue(2*x - 1)
	}
	return ue(-2 * x)
}

// te: one bit turned, if the greatest is 1, else Ue.
func te(x, most int) string {
	if most == 1 {
		return string([]byte{byte('1' - x)})
	}
	return ue(x)
}

// packed: bytes of a text of bits, the highest first, with noughts behind.
func packed(row string) string {
	out := make([]byte, (len(row)+7)/8)
	for i := range len(row) {
		if row[i] == '1' {
			out[i/8] |= 0x80 >> (i % 8)
		}
	}
	return string(out)
}

// spread: the text of bits of s.
func spread(s string) string {
	var b strings.Builder
	for i := range len(s) {
		b.WriteString(plain(int(s[i]), 8))
	}
	return b.String()
}

// readPlain: the first n bits of row as a number, and how many they are.
func readPlain(row string, n int) (int, int, api.Errno) {
	if n > len(row) {
		return 0, 0, api.ErrBitsEnd
	}
	x, _ := strconv.ParseInt("0"+row[:n], 2, 64)
	return int(x), n, api.OK
}

// leads: noughts ahead of the first 1 of row.
func leads(row string) int {
	return len(row) - len(strings.TrimLeft(row, "0"))
}

// readUe: what a code of at most most tells at the start of row, and its bits.
func readUe(row string, most int) (int, int, api.Errno) {
	n := leads(row)
	if n > 30 {
		return 0, 0, api.ErrBitsForm
	}
	if len(row) < 2*n+1 {
		return 0, 0, api.ErrBitsEnd
	}
	x, _ := strconv.ParseInt(row[n:2*n+1], 2, 64)
	if int(x)-1 > most {
		return 0, 0, api.ErrBitsForm
	}
	return int(x) - 1, 2*n + 1, api.OK
}

// chance is a row of numbers, and what is made of them.
type chance struct{ dice.Dice }

// text: up to most bytes, many of them 0.
func (c *chance) text(most int) string {
	out := make([]byte, c.Below(most+1))
	for i := range out {
		if c.Below(3) == 0 {
			out[i] = byte(c.Below(256))
		}
	}
	return string(out)
}

// ahead: a Reader of s that has read n bits.
func ahead(s string, n int) *bits.Reader {
	r := bits.Open(s)
	for range n {
		r.Bits(1)
	}
	return r
}
