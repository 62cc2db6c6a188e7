package fib_test

import (
	"math/rand"
	"slices"
	"sync"
	"testing"

	"wireward/api"
	"wireward/bdd"
	"wireward/fib"
	"wireward/match"
	"wireward/packet"
)

func newArena(t *testing.T, vars, most int) *bdd.Arena {
	t.Helper()
	a, e := bdd.New(vars, most)
	if e != api.OK {
		t.Fatal(e)
	}
	return a
}

func build(t *testing.T, a *bdd.Arena, l []api.Route, port int) int {
	t.Helper()
	f, e := fib.Build(a, l, port)
	if e != api.OK {
		t.Fatal(l, port, e)
	}
	return f
}

// sent tells, apart from the program, which addresses go out at a port.
func sent(l []api.Route, port int) [16]bool {
	var to [16]bool
	for dst := range to {
		n, ok := out(l, dst)
		to[dst] = ok && n == port
	}
	return to
}

// P9: Build is Out, for all packets, at each port and at such that none is.
func TestBuildIsOut(t *testing.T) {
	for _, l := range someLists() {
		a := newArena(t, 14, api.MaxNodes)
		for port := -1; port <= 4; port++ {
			f, to := build(t, a, l, port), sent(l, port)
			count := 0
			for code := range api.Packets {
				p, _ := packet.Of(code)
				want := to[p.Dst]
				if is, e := a.Eval(f, code); is != want || e != api.OK {
					t.Fatal(l, port, p, is, e)
				}
				if want {
					count++
				}
			}
			if n, e := a.Count(f); n != count || e != api.OK {
				t.Error(l, port, n, e)
			}
		}
	}
}

// P9: functions that are known by other calls.
func TestBuildKnown(t *testing.T) {
	a := newArena(t, 14, api.MaxNodes)
	first, _ := a.Var(4) // the highest bit of Dst
	second, _ := a.Var(5)
	both, _ := a.And(first, second)
	notSecond, _ := a.Not(second)
	oneAlone, _ := a.And(first, notSecond)
	notFirst, _ := a.Not(first)
	last, e := match.Build(a, api.Match{Src: 0xffff, Dst: 1 << 15, Sport: 0xff, Dport: 0xff})
	if e != api.OK {
		t.Fatal(e)
	}
	whole, half := api.Route{Port: 1}, api.Route{Value: 8, Bits: 1, Port: 2}
	quarter := api.Route{Value: 12, Bits: 2, Port: 3}
	for i, c := range []struct {
		l    []api.Route
		port int
		want int
	}{
		{nil, 0, 0}, // what no route takes goes out nowhere, not at port 0
		{[]api.Route{}, 1, 0},
		{[]api.Route{whole}, 0, 0},
		{[]api.Route{whole}, 1, 1},
		{[]api.Route{{}}, 0, 1},
		{[]api.Route{half}, 2, first},
		{[]api.Route{half}, 0, 0},
		{[]api.Route{{Bits: 1}}, 0, notFirst},
		{[]api.Route{quarter}, 3, both},
		{[]api.Route{half, quarter}, 2, oneAlone},
		{[]api.Route{quarter, half}, 2, oneAlone},
		{[]api.Route{half, quarter}, 3, both},
		{[]api.Route{whole, half}, 1, notFirst},
		{[]api.Route{half, {Value: 12, Bits: 2, Port: 2}}, 2, first},
		{[]api.Route{{Value: 15, Bits: 4, Port: 3}}, 3, last},
	} {
		if f := build(t, a, c.l, c.port); f != c.want {
			t.Error(i, f, c.want)
		}
	}
}

// P1, P9: at a port that none is nothing goes out; that is no error.
func TestBuildWildPort(t *testing.T) {
	for _, l := range someLists() {
		for _, port := range wild {
			a := newArena(t, 14, 100)
			f := build(t, a, l, port)
			if port >= 0 && port <= 3 {
				continue
			}
			if f != 0 || a.Size() != 2 {
				t.Error(l, port, f, a.Size())
			}
		}
	}
}

// P9: the ports share the packets among them, and what no route takes is left.
func TestBuildPortsPart(t *testing.T) {
	a := newArena(t, 14, api.MaxNodes)
	for _, l := range someLists() {
		any := 0
		for port := range 4 {
			f := build(t, a, l, port)
			if both, e := a.And(any, f); both != 0 || e != api.OK {
				t.Error(l, port, "twice", both, e)
			}
			any, _ = a.Or(any, f)
		}
		taken := 0
		for dst := range 16 {
			if _, ok := out(l, dst); ok {
				taken++
			}
		}
		if n, e := a.Count(any); n != taken*1024 || e != api.OK {
			t.Error(l, n, taken, e)
		}
	}
}

// P9: routes that send the same have the same number, also in an arena with
// other functions, in whatever order they stand.
func TestBuildAmongOthers(t *testing.T) {
	a := newArena(t, 14, api.MaxNodes)
	r := rand.New(rand.NewSource(24))
	numbers := map[[16]bool]int{}
	for range 400 {
		l, port := anyList(r, r.Intn(9)), r.Intn(4)
		f, to := build(t, a, l, port), sent(l, port)
		if was, ok := numbers[to]; ok && was != f {
			t.Fatal("two numbers of one function", l, port, f, was)
		}
		for other, g := range numbers {
			if other != to && g == f {
				t.Fatal("one number of two functions", l, port, f)
			}
		}
		numbers[to] = f
		size := a.Size()
		slices.Reverse(l)
		if again := build(t, a, l, port); again != f || a.Size() != size {
			t.Fatal("again", l, again, f)
		}
	}
}

// P9: of more variables the first 14 are meant.
func TestBuildMoreVariables(t *testing.T) {
	for vars := 15; vars <= 16; vars++ {
		for i, l := range someLists() {
			a, port := newArena(t, vars, api.MaxNodes), i%4
			f, to := build(t, a, l, port), sent(l, port)
			for bits := 0; bits < 1<<vars; bits += 3 {
				p, _ := packet.Of(bits >> (vars - 14))
				if is, e := a.Eval(f, bits); is != to[p.Dst] || e != api.OK {
					t.Fatal(vars, l, port, bits, is, e)
				}
			}
		}
	}
}

// P9: what Check tells comes first, then too few variables, whatever is sent;
// nothing is made then.
func TestBuildWrongArguments(t *testing.T) {
	refuses := func(a *bdd.Arena, l []api.Route, want api.Errno) {
		t.Helper()
		size := a.Size()
		for port := -1; port <= 4; port++ {
			if f, e := fib.Build(a, l, port); f != 0 || e != want || a.Size() != size {
				t.Error(l, port, f, e, want, a.Size())
			}
		}
	}
	wrong := map[api.Errno][]api.Route{
		api.ErrLarge: prefixes()[:9],
		api.ErrArg:   {{Value: 8, Bits: 1}, {Value: 9, Bits: 1}},
		api.ErrName:  {{Value: 8, Bits: 1}, {Value: 8, Bits: 1, Port: 1}},
	}
	for vars := 1; vars <= 16; vars++ {
		for _, most := range []int{2, 4, api.MaxNodes} {
			a := newArena(t, vars, most)
			for want, l := range wrong {
				refuses(a, l, want)
			}
			if vars >= 14 {
				continue
			}
			for _, l := range someLists() {
				refuses(a, l, api.ErrArg)
			}
		}
	}
	refuses(new(bdd.Arena), wrong[api.ErrName], api.ErrName)
	refuses(new(bdd.Arena), nil, api.ErrArg)
}

// P1, P9: lists of all kinds: Build takes those that Check takes.
func TestBuildOfAnyList(t *testing.T) {
	r := rand.New(rand.NewSource(25))
	for range 5000 {
		l := wildList(r, r.Intn(10))
		a := newArena(t, 14, 100)
		if f, e := fib.Build(a, l, r.Intn(4)); e != check(l) || e != api.OK && (f != 0 || a.Size() != 2) {
			t.Fatal(l, f, e, a.Size())
		}
	}
}

// P9: without room the error is the arena's; with just the function's own
// nodes there is room.
func TestBuildFull(t *testing.T) {
	for _, l := range someLists() {
		for port := range 4 {
			wide := newArena(t, 14, api.MaxNodes)
			f := build(t, wide, l, port)
			needs := wide.Size()
			// Nothing is made for nothing: the function is the last one there.
			if needs != max(2, f+1) {
				t.Error(l, port, f, needs)
			}
			for most := 2; most < needs; most++ {
				a := newArena(t, 14, most)
				if g, e := fib.Build(a, l, port); g != 0 || e != api.ErrFull || a.Size() != most {
					t.Fatal(l, port, most, needs, g, e, a.Size())
				}
			}
			a := newArena(t, 14, needs)
			for range 2 { // what is there needs no room
				if g, e := fib.Build(a, l, port); g != f || e != api.OK || a.Size() != needs {
					t.Error(l, port, needs, g, e, a.Size())
				}
			}
		}
	}
}

// P2: lists, and the room behind them, stay as they are; and no function hangs
// on them afterwards.
func TestListsStay(t *testing.T) {
	r := rand.New(rand.NewSource(26))
	for range 40 {
		room := anyList(r, 12)
		was := slices.Clone(room)
		l := room[2:9]
		a := newArena(t, 14, api.MaxNodes)
		fib.Check(l)
		fib.Out(l, 5)
		f, to := build(t, a, l, 1), sent(l, 1)
		if !slices.Equal(room, was) {
			t.Fatal("changed", room, was)
		}
		clear(room)
		for code := range api.Packets {
			p, _ := packet.Of(code)
			if is, _ := a.Eval(f, code); is != to[p.Dst] {
				t.Fatal(was, p, is)
			}
		}
	}
}

// P2: answers hang on what was handed in alone: not on calls ahead, failed
// ones included, nor on those of others at the same time.
func TestNothingIsKept(t *testing.T) {
	lists := someLists()
	var all sync.WaitGroup
	answers := make([][]int, 4)
	for k := range answers {
		all.Go(func() {
			for i := range lists {
				l := lists[(i+k*7)%len(lists)]
				small, _ := bdd.New(14, 2)
				fib.Build(small, l, k)
				fib.Check(append(slices.Clone(l), api.Route{Bits: 5}))
				fib.Out(l, -1)
			}
			for i, l := range lists {
				a, _ := bdd.New(14, api.MaxNodes)
				f, e := fib.Build(a, l, i%4)
				port, _ := fib.Out(l, i%16)
				answers[k] = append(answers[k], f, int(e), a.Size(), port, int(fib.Check(l)))
			}
		})
	}
	all.Wait()
	for _, x := range answers[1:] {
		if !slices.Equal(x, answers[0]) {
			t.Error("answers differ")
		}
	}
}
