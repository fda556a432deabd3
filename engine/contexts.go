package engine

import "zoetrope/api"

// contexts holds a state for each context. The first ones stand within it, not
// behind a slice, so that an Encoder or Decoder may be copied whole by one who
// wants to go back to where it was: later layers reach no others.
type contexts struct {
	many int
	near [api.Contexts]uint8
	far  []uint8
}

// newContexts takes states: those that are none are 0.
func newContexts(states []int) contexts {
	c := contexts{many: len(states)}
	if c.many > len(c.near) {
		c.far = make([]uint8, c.many-len(c.near))
	}
	for ctx, state := range states {
		if isState(state) {
			c.set(ctx, state)
		}
	}
	return c
}

// has tells if ctx is a place of it.
func (c *contexts) has(ctx int) bool {
	return 0 <= ctx && ctx < c.many
}

// get: the state of a place.
func (c *contexts) get(ctx int) int {
	if ctx < len(c.near) {
		return int(c.near[ctx])
	}
	return int(c.far[ctx-len(c.near)])
}

// set lays a state at a place.
func (c *contexts) set(ctx int, state int) {
	if ctx < len(c.near) {
		c.near[ctx] = uint8(state)
		return
	}
	c.far[ctx-len(c.near)] = uint8(state)
}

// list: all states, in new memory.
func (c *contexts) list() []int {
	states := make([]int, c.many)
	for ctx := range states {
		states[ctx] = c.get(ctx)
	}
	return states
}
