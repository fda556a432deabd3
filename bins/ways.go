package bins

import (
	"zoetrope/api"
	"zoetrope/engine"
)

// way is where bins go to, or come from: one that writes takes the bin that it
// is told and answers it, one that reads answers the bin that it finds.
type way interface {
	bin(b int) int // by a context
	bypass(b int) int
}

// text writes bins as letters.
type text struct {
	bins []byte
}

func (t *text) bin(b int) int {
	t.bins = append(t.bins, byte('0'+b))
	return b
}

func (t *text) bypass(b int) int {
	t.bins = append(t.bins, byte('a'+b))
	return b
}

// places are an element's contexts, one bin's behind the other's.
type places struct {
	el  int
	inc int
}

// next: the context of the next bin that has one.
func (p *places) next() int {
	ctx := perElement*p.el + p.inc
	p.inc = min(p.inc+1, perElement-1)
	return ctx
}

// encoding writes bins to an engine.
type encoding struct {
	e *engine.Encoder
	places
}

func (w *encoding) bin(b int) int {
	check(w.e.Bin(w.next(), b))
	return b
}

func (w *encoding) bypass(b int) int {
	check(w.e.Bypass(b))
	return b
}

// decoding reads bins from an engine.
type decoding struct {
	d *engine.Decoder
	places
}

func (r *decoding) bin(int) int {
	b, code := r.d.Bin(r.next())
	check(code)
	return b
}

func (r *decoding) bypass(int) int {
	b, code := r.d.Bypass()
	check(code)
	return b
}

// check ends a walk that the engine doesn't follow.
func check(code api.Errno) {
	if code != api.OK {
		panic(fault{api.ErrBinsEnd})
	}
}
