// Package dice makes rows of numbers for the tests of the other packages: any
// numbers, but the same in each run.
package dice

// Dice is a place in such a row. Its number is the row's name.
type Dice uint64

// Below: a number from 0 to n - 1.
func (d *Dice) Below(n int) int {
	*d = *d*6364136223846793005 + 1442695040888963407
	return int(uint64(*d) >> 33 % uint64(n))
}

// From: a number from a to b.
func (d *Dice) From(a, b int) int {
	return a + d.Below(b-a+1)
}

// Flag: one as often as the other.
func (d *Dice) Flag() bool {
	return d.Below(2) == 1
}

// Text: n bytes.
func (d *Dice) Text(n int) string {
	out := make([]byte, n)
	for i := range out {
		out[i] = byte(d.Below(256))
	}
	return string(out)
}

// Numbers: n of them, each below a limit.
func (d *Dice) Numbers(n int, limit int) []int {
	out := make([]int, n)
	for i := range out {
		out[i] = d.Below(limit)
	}
	return out
}
