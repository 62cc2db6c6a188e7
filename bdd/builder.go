package bdd

import "wireward/api"

// choice is the function that is yes where when is true, no where it is false.
type choice struct{ when, yes, no int }

// mix is the function that a later variable chooses: low where it is false,
// high where it is true, both taken where that variable itself is value.
type mix struct {
	low, high int
	value     bool
}

// builder makes the nodes that one call needs. It goes down variable by
// variable, and joins what it finds from below, so that each node it makes is
// one of the answer's: a call is full only if its answer has no room.
type builder struct {
	arena   *Arena
	full    bool
	chosen  map[choice]int
	blended map[mix]int
	walked  map[int]int // by the function at which exists, swap or take came by
}

// answer is what a call tells of the function it built.
func (b *builder) answer(f int) (int, api.Errno) {
	if b.full {
		return 0, api.ErrFull
	}
	return f, api.OK
}

// numberOf is the function of a node. One that is the same either way doesn't
// hang on the variable: without that it would have two numbers.
func (b *builder) numberOf(n node) int {
	a := b.arena
	if n.low == n.high {
		return n.low
	}
	if f, ok := a.numbers[n]; ok {
		return f
	}
	if len(a.nodes) >= a.most {
		b.full = true
		return Never
	}
	f := len(a.nodes)
	a.nodes = append(a.nodes, n)
	a.numbers[n] = f
	return f
}

func (b *builder) variable(f int) int { return b.arena.nodes[f].variable }

func (b *builder) part(f, variable int, value bool) int { return b.arena.part(f, variable, value) }

func (b *builder) choose(c choice) int {
	switch {
	case b.full:
		return Never
	case c.when == Always, c.yes == c.no:
		return c.yes
	case c.when == Never:
		return c.no
	}
	if f, ok := b.chosen[c]; ok {
		return f
	}
	v := min(b.variable(c.when), b.variable(c.yes), b.variable(c.no))
	low := b.choose(b.partOfChoice(c, v, false))
	high := b.choose(b.partOfChoice(c, v, true))
	f := b.numberOf(node{v, low, high})
	b.chosen[c] = f
	return f
}

func (b *builder) partOfChoice(c choice, variable int, value bool) choice {
	return choice{
		when: b.part(c.when, variable, value),
		yes:  b.part(c.yes, variable, value),
		no:   b.part(c.no, variable, value),
	}
}

func (b *builder) exists(f, variable int) int {
	n := b.arena.nodes[f]
	switch {
	case b.full:
		return Never
	case n.variable > variable:
		return f
	case n.variable == variable:
		return b.choose(choice{n.low, Always, n.high})
	}
	if g, ok := b.walked[f]; ok {
		return g
	}
	low := b.exists(n.low, variable)
	high := b.exists(n.high, variable)
	g := b.numberOf(node{n.variable, low, high})
	b.walked[f] = g
	return g
}

// swap is f with variables early and late exchanged, early being the lesser.
func (b *builder) swap(f, early, late int) int {
	n := b.arena.nodes[f]
	switch {
	case b.full:
		return Never
	case n.variable > late:
		return f
	}
	if g, ok := b.walked[f]; ok {
		return g
	}
	made := node{variable: min(n.variable, early)}
	if n.variable < early {
		made.low = b.swap(n.low, early, late)
		made.high = b.swap(n.high, early, late)
	} else {
		// Where early is a value then, late was it, and late chooses as early did.
		low, high := b.part(f, early, false), b.part(f, early, true)
		made.low = b.blend(mix{low, high, false}, late)
		made.high = b.blend(mix{low, high, true}, late)
	}
	g := b.numberOf(made)
	b.walked[f] = g
	return g
}

func (b *builder) blend(x mix, late int) int {
	if b.full {
		return Never
	}
	if f, ok := b.blended[x]; ok {
		return f
	}
	v := min(b.variable(x.low), b.variable(x.high), late)
	made := node{variable: v}
	if v == late {
		made.low = b.part(x.low, late, x.value)
		made.high = b.part(x.high, late, x.value)
	} else {
		made.low = b.blend(b.partOfMix(x, v, false), late)
		made.high = b.blend(b.partOfMix(x, v, true), late)
	}
	f := b.numberOf(made)
	b.blended[x] = f
	return f
}

func (b *builder) partOfMix(x mix, variable int, value bool) mix {
	return mix{
		low:   b.part(x.low, variable, value),
		high:  b.part(x.high, variable, value),
		value: x.value,
	}
}

// take is function f of another arena.
func (b *builder) take(from *Arena, f int) int {
	switch {
	case b.full:
		return Never
	case f <= Always:
		return f
	}
	if g, ok := b.walked[f]; ok {
		return g
	}
	n := from.nodes[f]
	low := b.take(from, n.low)
	high := b.take(from, n.high)
	g := b.numberOf(node{n.variable, low, high})
	b.walked[f] = g
	return g
}
