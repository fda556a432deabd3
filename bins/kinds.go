package bins

import (
	"sync"

	"zoetrope/api"
)

// kind is a kind of element: those of one kind have bins of one form.
type kind uint8

const (
	none kind = iota // no element
	flag
	short
	signed
	great
)

const (
	mostShort  = 63 // the greatest number that a short one may be given
	mostSigned = 32767
	mostGreat  = 65535
)

// kinds owns the table of elements' kinds. Each call makes an owner of its own,
// so that nothing stays from call to call.
type kinds struct {
	once  sync.Once
	table [api.ElEnd + 1]kind
}

// newKinds makes an owner. Its table is made when it is first asked.
func newKinds() *kinds {
	return new(kinds)
}

// of: an element's kind.
func (k *kinds) of(el int) kind {
	k.once.Do(k.fill)
	if el < 0 || el >= len(k.table) {
		return none
	}
	return k.table[el]
}

// holds tells if there is such an element, and if it may be v.
func (k *kinds) holds(el int, v int, most int) bool {
	switch k.of(el) {
	case flag:
		return v == 0 || v == 1
	case short:
		return 1 <= most && most <= mostShort && 0 <= v && v <= most
	case signed:
		return -mostSigned <= v && v <= mostSigned
	case great:
		return 0 <= v && v <= mostGreat
	}
	return false
}

// fill makes the table.
func (k *kinds) fill() {
	k.table = [api.ElEnd + 1]kind{
		api.ElSkip:   flag,
		api.ElType:   short,
		api.ElPred:   flag,
		api.ElRem:    short,
		api.ElWhole:  short,
		api.ElChroma: short,
		api.ElShape:  short,
		api.ElDir:    short,
		api.ElRef:    short,
		api.ElMvdX:   signed,
		api.ElMvdY:   signed,
		api.ElLuma:   short,
		api.ElCbp:    short,
		api.ElQp:     signed,
		api.ElCoded:  flag,
		api.ElSig:    flag,
		api.ElLast:   flag,
		api.ElOne:    great,
		api.ElMore:   flag,
		api.ElEnd:    flag,
	}
}
