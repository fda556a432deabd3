package bins

import "zoetrope/api"

const (
	signedOnes = 9 // ones of a signed one ahead of its tail
	signedTail = 3 // the k that its tail begins with
	greatOnes  = 14
	greatTail  = 0
	endOfTails = 17 // the k that no tail comes to
)

// walk goes over an element's bins, to where they are written or from where
// they are read: one walk for both, so that one follows the other bin by bin.
type walk struct {
	way
}

// element: the value of one of a kind. Where bins are read nothing hangs on v.
func (w walk) element(of kind, v int, most int) int {
	switch of {
	case flag:
		return w.bin(v)
	case short:
		return w.ones(v, most)
	case signed:
		return w.signed(v)
	}
	return w.great(v)
}

// ones: as many as v, at most most, and what ends them.
func (w walk) ones(v int, most int) int {
	n := 0
	for n < most && w.bin(oneIf(n < v)) == 1 {
		n++
	}
	return n
}

// signed: a size, and behind one above 0 its sign.
func (w walk) signed(v int) int {
	size := w.long(max(v, -v), signedOnes, signedTail)
	throwIf(size > mostSigned)
	if size > 0 && w.bypass(oneIf(v < 0)) == 1 {
		return -size
	}
	return size
}

// great: a number that may be long.
func (w walk) great(v int) int {
	v = w.long(v, greatOnes, greatTail)
	throwIf(v > mostGreat)
	return v
}

// long: ones up to most, and a tail of what is above them.
func (w walk) long(v int, most int, k int) int {
	n := w.ones(v, most)
	if n < most {
		return n
	}
	return most + w.tail(v-most, k)
}

// tail: how many digits x has, then these, each less what was told ahead.
func (w walk) tail(x int, k int) int {
	told := 0
	for w.bypass(oneIf(x-told >= 1<<k)) == 1 {
		told += 1 << k
		k++
		throwIf(k == endOfTails)
	}
	for k--; k >= 0; k-- {
		told += w.bypass((x-told)>>k&1) << k
	}
	return told
}

// oneIf: a bin that tells what is so.
func oneIf(so bool) int {
	if so {
		return 1
	}
	return 0
}

// fault is an error that is thrown within this package: it ends a walk.
type fault struct {
	code api.Errno
}

// throwIf ends a walk over bins that are no element's.
func throwIf(so bool) {
	if so {
		panic(fault{api.ErrBinsForm})
	}
}
