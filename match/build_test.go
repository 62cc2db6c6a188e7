package match_test

import (
	"math/rand"
	"testing"

	"wireward/api"
	"wireward/bdd"
	"wireward/match"
	"wireward/packet"
)

func newArena(t *testing.T, vars, most int) *bdd.Arena {
	t.Helper()
	a, e := bdd.New(vars, most)
	if e != api.OK {
		t.Fatal(e)
	}
	return a
}

func build(t *testing.T, a *bdd.Arena, m api.Match) int {
	t.Helper()
	f, e := match.Build(a, m)
	if e != api.OK {
		t.Fatal(m, e)
	}
	return f
}

// someMatches has the edges, and matches of many shapes.
func someMatches() []api.Match {
	r := rand.New(rand.NewSource(6))
	l := []api.Match{
		match.All(), {}, {Src: 1, Dst: 1, Sport: 1, Dport: 1}, {Src: 1 << 15, Dst: 1 << 15, Sport: 1 << 7, Dport: 1 << 7},
		{Src: 0x0f3c, Dst: 0x6996, Sport: 0x96, Dport: 0x69}, {Src: 0x6996, Dst: 0x1ee1, Sport: 0x81, Dport: 0x7e},
		{Dst: 0x6996, Sport: 0x96, Dport: 0x69}, {Src: 0x6996, Sport: 0x96, Dport: 0x69},
		{Src: 0x6996, Dst: 0x6996, Dport: 0x69}, {Src: 0x6996, Dst: 0x6996, Sport: 0x69},
	}
	for range 30 {
		l = append(l, anyMatch(r))
	}
	return l
}

// P7: Eval of a code is In of its packet, for all packets.
func TestBuildIsIn(t *testing.T) {
	for _, m := range someMatches() {
		a := newArena(t, 14, api.MaxNodes)
		f := build(t, a, m)
		count := 0
		for code := range api.Packets {
			p, _ := packet.Of(code)
			want := has(m, p)
			if is, e := a.Eval(f, code); is != want || e != api.OK || match.In(m, p) != want {
				t.Fatal(m, p, is, e)
			}
			if want {
				count++
			}
		}
		if n, e := a.Count(f); n != count || e != api.OK {
			t.Error(m, n, e)
		}
	}
}

// P7: each variable is the bit of the part that the chapter says.
func TestBuildVariables(t *testing.T) {
	a := newArena(t, 14, api.MaxNodes)
	for i := range 14 {
		m := match.All()
		switch { // the numbers of the part whose bit is 1
		case i < 4:
			m.Src = []uint16{0xff00, 0xf0f0, 0xcccc, 0xaaaa}[i]
		case i < 8:
			m.Dst = []uint16{0xff00, 0xf0f0, 0xcccc, 0xaaaa}[i-4]
		case i < 11:
			m.Sport = []uint8{0xf0, 0xcc, 0xaa}[i-8]
		default:
			m.Dport = []uint8{0xf0, 0xcc, 0xaa}[i-11]
		}
		f := build(t, a, m)
		if v, e := a.Var(i); v != f || e != api.OK {
			t.Error(i, f, v, e)
		}
	}
}

// P7: in an arena with other functions, the same match has the same number,
// and matches are functions as others are.
func TestBuildAmongOthers(t *testing.T) {
	a := newArena(t, 14, api.MaxNodes)
	l := someMatches()
	for i, m := range l {
		k := l[(i+1)%len(l)]
		f, g := build(t, a, m), build(t, a, k)
		both, e := a.And(f, g)
		if e != api.OK {
			t.Fatal(e)
		}
		// Both sets at once are one match again.
		meet := api.Match{Src: m.Src & k.Src, Dst: m.Dst & k.Dst, Sport: m.Sport & k.Sport, Dport: m.Dport & k.Dport}
		if h := build(t, a, meet); h != both {
			t.Error(m, k, h, both)
		}
		if again := build(t, a, m); again != f {
			t.Error(m, f, again)
		}
	}
	for s, want := range map[string]int{"- * * *": 0, "* - * *": 0, "* * - *": 0, "* * * -": 0, "* * * *": 1} {
		if f := build(t, a, read(t, s)); f != want {
			t.Error(s, f)
		}
	}
}

// P7: of more variables the first 14 are meant.
func TestBuildMoreVariables(t *testing.T) {
	for vars := 15; vars <= 16; vars++ {
		more := vars - 14
		for _, m := range someMatches()[:16] {
			a := newArena(t, vars, api.MaxNodes)
			f := build(t, a, m)
			for bits := range 1 << vars {
				p, _ := packet.Of(bits >> more)
				if is, e := a.Eval(f, bits); is != has(m, p) || e != api.OK {
					t.Fatal(vars, m, bits, is, e)
				}
			}
		}
	}
}

// P7: fewer than 14 variables, also where no variable is looked at.
func TestBuildFewVariables(t *testing.T) {
	for vars := 1; vars <= 13; vars++ {
		for _, m := range []api.Match{{}, match.All(), {Src: 1, Dst: 1, Sport: 1, Dport: 1}} {
			for _, most := range []int{2, api.MaxNodes} {
				a := newArena(t, vars, most)
				if f, e := match.Build(a, m); f != 0 || e != api.ErrArg || a.Size() != 2 {
					t.Error(vars, m, f, e, a.Size())
				}
			}
		}
	}
	if f, e := match.Build(new(bdd.Arena), match.All()); f != 0 || e != api.ErrArg {
		t.Error(f, e)
	}
}

// P7: without room the error is the arena's; with just the function's own
// nodes there is room.
func TestBuildFull(t *testing.T) {
	for _, m := range someMatches() {
		wide := newArena(t, 14, api.MaxNodes)
		f := build(t, wide, m)
		needs := wide.Size()
		// Nothing is made for nothing: the function is the last one there.
		if needs != max(2, f+1) {
			t.Error(m, f, needs)
		}
		for most := 2; most < needs; most++ {
			a := newArena(t, 14, most)
			if g, e := match.Build(a, m); g != 0 || e != api.ErrFull || a.Size() != most {
				t.Fatal(m, most, needs, g, e, a.Size())
			}
		}
		a := newArena(t, 14, needs)
		if g, e := match.Build(a, m); g != f || e != api.OK || a.Size() != needs {
			t.Error(m, needs, g, e, a.Size())
		}
		// What is there needs no room.
		if g, e := match.Build(a, m); g != f || e != api.OK || a.Size() != needs {
			t.Error("again", m, needs, g, e, a.Size())
		}
	}
}

// P7: the nodes of a single packet are one a variable.
func TestBuildNodes(t *testing.T) {
	a := newArena(t, 14, 16)
	f := build(t, a, api.Match{Src: 1 << 9, Dst: 1 << 4, Sport: 1 << 2, Dport: 1 << 7})
	if a.Size() != 16 {
		t.Error(a.Size())
	}
	want, _ := packet.Code(api.Packet{Src: 9, Dst: 4, Sport: 2, Dport: 7})
	if code, ok, e := a.One(f); code != want || !ok || e != api.OK {
		t.Error(code, ok, e)
	}
}
