package levels

import "slices"

// block is a block as its codes tell it: its levels are the coefficients that
// are not 0, from the last one towards the first.
type block struct {
	many    int
	levels  [mostSize]int
	noughts int           // ahead of the last level
	runs    [mostSize]int // of each: noughts right ahead of it
}

// blockOf takes coefficients apart.
func blockOf(cs []int) *block {
	b := new(block)
	for _, level := range slices.Backward(cs) {
		switch {
		case level != 0:
			b.levels[b.many] = level
			b.many++
		case b.many > 0:
			b.runs[b.many-1]++
			b.noughts++
		}
	}
	return b
}

// coefficients puts them together again.
func (b *block) coefficients(size int) []int {
	cs := make([]int, size)
	place := b.many + b.noughts
	for i, level := range b.levels[:b.many] {
		place--
		cs[place] = level
		place -= b.runs[i]
	}
	return cs
}

// ones: how many levels in a row, from the last one on, are told by their signs
// alone.
func (b *block) ones() int {
	n := 0
	for n < mostOnes && (b.levels[n] == 1 || b.levels[n] == -1) {
		n++
	}
	return n
}
