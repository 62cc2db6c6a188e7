package reach

import (
	"wireward/acl"
	"wireward/api"
	"wireward/bdd"
	"wireward/fib"
	"wireward/match"
)

// How many variables an address and a port have.
const (
	addrBits = 4
	portBits = 3
)

// bench is an arena aside for what is needed on the way to one set, so that
// the arena of a Reach has the sets' own nodes alone. There is always room: a
// function of 14 variables has at most 2301 nodes, and on the way to a set at
// most 14 such ones are made, and some of fewer variables. The first error
// stays, and is asked for once, at the end.
type bench struct {
	arena *bdd.Arena
	errno api.Errno
}

func newBench() (*bench, api.Errno) {
	a, e := bdd.New(match.Vars, api.MaxNodes)
	return &bench{arena: a}, e
}

// keep is the function that a call answered; with an error that is bdd.Never,
// with which what follows can be called all the same.
func (b *bench) keep(f int, e api.Errno) int {
	if b.errno == api.OK {
		b.errno = e
	}
	return f
}

func (b *bench) take(from *bdd.Arena, f int) int { return b.keep(b.arena.Take(from, f)) }

func (b *bench) and(f, g int) int { return b.keep(b.arena.And(f, g)) }

func (b *bench) or(f, g int) int { return b.keep(b.arena.Or(f, g)) }

func (b *bench) match(m api.Match) int { return b.keep(match.Build(b.arena, m)) }

func (b *bench) rules(l []api.Rule) int { return b.keep(acl.Build(b.arena, l)) }

func (b *bench) routes(l []api.Route, port int) int { return b.keep(fib.Build(b.arena, l, port)) }

// flip is the packets whose packet.Flip f has.
func (b *bench) flip(f int) int {
	f = b.exchange(f, match.VarSrc, match.VarDst, addrBits)
	return b.exchange(f, match.VarSport, match.VarDport, portBits)
}

func (b *bench) exchange(f, first, second, bits int) int {
	for i := range bits {
		f = b.keep(b.arena.Swap(f, first+i, second+i))
	}
	return f
}

// anySrc is the packets that f has with some Src; so are those below.
func (b *bench) anySrc(f int) int { return b.anyOf(f, match.VarSrc, addrBits) }

func (b *bench) anyDst(f int) int { return b.anyOf(f, match.VarDst, addrBits) }

func (b *bench) anySport(f int) int { return b.anyOf(f, match.VarSport, portBits) }

func (b *bench) anyDport(f int) int { return b.anyOf(f, match.VarDport, portBits) }

func (b *bench) anyOf(f, first, bits int) int {
	for i := range bits {
		f = b.keep(b.arena.Exists(f, first+i))
	}
	return f
}
