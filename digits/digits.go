// Package digits writes bits as a text of '0' and '1', and reads them of one, by
// the words of chapter 1 alone: the tests of other packages hold what is written
// and read against it.
package digits

import (
	"strconv"
	"strings"

	"zoetrope/api"
)

const (
	GreatestUe = 1<<31 - 2
	GreatestSe = 1<<30 - 1
)

// TooLong is none of the codes: 31 noughts ahead of its first 1.
const TooLong = "0000000000000000000000000000000" + "11111111111111111111111111111111"

// Plain: x as n bits.
func Plain(x, n int) string {
	row := strings.Repeat("0", n) + strconv.FormatInt(int64(x), 2)
	return row[len(row)-n:]
}

// Ue of each: x + 1 in digits, ahead of it as many noughts as digits behind its
// first.
func Ue(xs ...int) string {
	row := ""
	for _, x := range xs {
		told := strconv.FormatInt(int64(x)+1, 2)
		row += strings.Repeat("0", len(told)-1) + told
	}
	return row
}

// Se of each: Ue of 2 x - 1 above 0, else of -2 x.
func Se(xs ...int) string {
	row := ""
	for _, x := range xs {
		if x > 0 {
			row += Ue(2*x - 1)
		} else {
			row += Ue(-2 * x)
		}
	}
	return row
}

// Te: one bit turned, if the greatest is 1, else Ue.
func Te(x, most int) string {
	if most == 1 {
		return Plain(1-x, 1)
	}
	return Ue(x)
}

// Flag: a bit.
func Flag(on bool) string {
	if on {
		return "1"
	}
	return "0"
}

// Packed: bytes of a row, the highest bit first, with noughts behind.
func Packed(row string) string {
	out := make([]byte, (len(row)+7)/8)
	for i := range len(row) {
		if row[i] == '1' {
			out[i/8] |= 0x80 >> (i % 8)
		}
	}
	return string(out)
}

// Spread: the row of bits of s.
func Spread(s string) string {
	var row strings.Builder
	for i := range len(s) {
		row.WriteString(Plain(int(s[i]), 8))
	}
	return row.String()
}

// Left is what is left of a row, and what was wrong with the first code that
// was not there: from then on there is none.
type Left struct {
	Row  string
	Code api.Errno
}

// Plain: the next n bits as a number.
func (l *Left) Plain(n int) int {
	if l.Code == api.OK && n > len(l.Row) {
		l.Code = api.ErrBitsEnd
	}
	if l.Code != api.OK {
		return 0
	}
	x, _ := strconv.ParseInt("0"+l.Row[:n], 2, 64)
	l.Row = l.Row[n:]
	return int(x)
}

// Ue: the next code's number.
func (l *Left) Ue() int {
	noughts := len(l.Row) - len(strings.TrimLeft(l.Row, "0"))
	if l.Code == api.OK && noughts > 30 {
		l.Code = api.ErrBitsForm
	}
	told := l.Plain(2*noughts + 1)
	if l.Code != api.OK {
		return 0
	}
	return told - 1
}

// Se: the same, as a number below or above 0.
func (l *Left) Se() int {
	x := l.Ue()
	if x%2 == 1 {
		return (x + 1) / 2
	}
	return -x / 2
}

// Te: the next code's number of a greatest one.
func (l *Left) Te(most int) int {
	if most == 1 {
		return l.turned(l.Plain(1))
	}
	x := l.Ue()
	if x > most {
		l.Code = api.ErrBitsForm
		return 0
	}
	return x
}

// turned: the other bit, if there is one.
func (l *Left) turned(x int) int {
	if l.Code != api.OK {
		return 0
	}
	return 1 - x
}
