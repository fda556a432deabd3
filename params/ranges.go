package params

import (
	"sync"

	"zoetrope/api"
)

// span is a range of numbers: both its ends are in it.
type span struct {
	least int
	most  int
}

// holds tells if each of xs is in it.
func (s span) holds(xs ...int) bool {
	for _, x := range xs {
		if x < s.least || x > s.most {
			return false
		}
	}
	return true
}

// kind is a kind of number that has a range of its own.
type kind int

const (
	side      kind = iota // Wide, High
	counter               // FrameBits, PocBits
	pocType               // PocType
	cycleSize             // how many in Cycle
	pocStep               // NonRef, and each in Cycle
	pictures              // Refs, Active0, Active1
	biPred                // BiPred
	qp                    // Qp
	chromaQp              // ChromaQp
	kinds
)

// keeper owns the table of ranges. Each call that asks for a range makes a
// keeper of its own, so that nothing stays from call to call.
type keeper struct {
	once  sync.Once
	table [kinds]span
}

// of: the range of a kind. The first time that one is asked for makes the table.
func (k *keeper) of(which kind) span {
	k.once.Do(func() {
		k.table = [kinds]span{
			side:      {1, api.MaxMbs},
			counter:   {leastBits, 8},
			pocType:   {0, 2},
			cycleSize: {0, 4},
			pocStep:   {-1000, 1000},
			pictures:  {1, api.MaxRefs},
			biPred:    {0, 2},
			qp:        {0, 51},
			chromaQp:  {-12, 12},
		}
	})
	return k.table[which]
}
