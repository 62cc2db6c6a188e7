package fib_test

import (
	"math"
	"math/rand"
	"slices"
	"strconv"
	"strings"
	"testing"

	"wireward/api"
	"wireward/fib"
)

// wild are numbers in, at and beyond the bounds of every part.
var wild = []int{
	math.MinInt, math.MinInt + 1, -1 << 32, -64, -16, -5, -4, -3, -1, 0, 1, 2, 3, 4, 5, 6, 7, 8, 9, 12, 14, 15, 16, 17, 18,
	31, 32, 63, 64, 65, 68, 1 << 16, 1<<32 + 1, math.MaxInt - 1, math.MaxInt,
}

// bitsOf is an address as four signs, the highest bit first.
func bitsOf(n int) string {
	s := ""
	for _, weight := range []int{8, 4, 2, 1} {
		if n >= weight {
			s += "1"
			n -= weight
		} else {
			s += "0"
		}
	}
	return s
}

// good tells, apart from the program, whether a route may be.
func good(r api.Route) bool {
	if r.Bits < 0 || r.Bits > 4 || r.Value < 0 || r.Value > 15 || r.Port < 0 || r.Port > 3 {
		return false
	}
	return strings.Trim(bitsOf(r.Value)[r.Bits:], "0") == ""
}

// out is Out, written apart from the program: from the most bits to the least,
// each time the first in the list.
func out(l []api.Route, dst int) (int, bool) {
	if dst < 0 || dst > 15 {
		return 0, false
	}
	for bits := 4; bits >= 0; bits-- {
		for _, r := range l {
			if r.Bits == bits && good(r) && strings.HasPrefix(bitsOf(dst), bitsOf(r.Value)[:bits]) {
				return r.Port, true
			}
		}
	}
	return 0, false
}

// check is Check, written apart from the program.
func check(l []api.Route) api.Errno {
	if len(l) > 8 {
		return api.ErrLarge
	}
	was := map[[2]int]int{}
	for _, r := range l {
		if !good(r) {
			return api.ErrArg
		}
		key := [2]int{r.Value, r.Bits}
		if was[key] > 0 {
			return api.ErrName
		}
		was[key]++
	}
	return api.OK
}

// prefixes are all that a route can take addresses by: 31 of them.
func prefixes() []api.Route {
	var l []api.Route
	for bits := range 5 {
		for value := 0; value < 16; value += 16 >> bits {
			l = append(l, api.Route{Value: value, Bits: bits})
		}
	}
	return l
}

// anyList is a list that Check takes.
func anyList(r *rand.Rand, routes int) []api.Route {
	all := prefixes()
	r.Shuffle(len(all), func(i, j int) { all[i], all[j] = all[j], all[i] })
	l := all[:routes]
	for i := range l {
		l[i].Port = r.Intn(4)
	}
	return l
}

// wildList has routes of all kinds, twice and wrong, too.
func wildList(r *rand.Rand, routes int) []api.Route {
	all := prefixes()
	var l []api.Route
	for len(l) < routes {
		x := all[r.Intn(len(all))]
		x.Port = r.Intn(4)
		switch r.Intn(8) {
		case 0:
			x.Value = wild[r.Intn(len(wild))]
		case 1:
			x.Bits = wild[r.Intn(len(wild))]
		case 2:
			x.Port = wild[r.Intn(len(wild))]
		case 3:
			if len(l) > 0 {
				y := l[r.Intn(len(l))]
				x.Value, x.Bits = y.Value, y.Bits
			}
		}
		l = append(l, x)
	}
	return l
}

// someLists are lists that Check takes, of each length, the edges among them.
func someLists() [][]api.Route {
	lists := [][]api.Route{
		nil, {}, {{}}, {{Port: 3}}, {{Value: 15, Bits: 4}}, {{Bits: 4, Port: 1}}, {{Value: 8, Bits: 1, Port: 2}},
		{{Value: 8, Bits: 1, Port: 2}, {Value: 12, Bits: 2, Port: 3}, {Value: 13, Bits: 4, Port: 1}},
		{{Value: 13, Bits: 4, Port: 1}, {Value: 12, Bits: 2, Port: 3}, {Value: 8, Bits: 1, Port: 2}},
		{{Port: 1}, {Bits: 1, Port: 2}, {Bits: 2, Port: 3}, {Bits: 3, Port: 0}, {Bits: 4, Port: 1}},
	}
	// Every other address, so that the function has as many nodes as routes can give it.
	var scattered []api.Route
	for _, value := range []int{0, 3, 5, 6, 9, 10, 12, 15} {
		scattered = append(scattered, api.Route{Value: value, Bits: 4, Port: 2})
	}
	lists = append(lists, scattered)
	r := rand.New(rand.NewSource(20))
	for routes := 1; routes <= api.MaxRoutes; routes++ {
		for range 6 {
			lists = append(lists, anyList(r, routes))
		}
	}
	return lists
}

// P9: at most eight routes, whatever they are.
func TestCheckLarge(t *testing.T) {
	all := prefixes()
	for n := range len(all) + 1 {
		want := api.OK
		if n > 8 {
			want = api.ErrLarge
		}
		if e := fib.Check(all[:n]); e != want {
			t.Error(n, e)
		}
	}
	if e := fib.Check(nil); e != api.OK {
		t.Error(e)
	}
	// More than there may be is told ahead of what the routes are.
	for _, l := range [][]api.Route{make([]api.Route, 9), slices.Repeat([]api.Route{{Bits: 5}}, 9), make([]api.Route, 100000)} {
		if e := fib.Check(l); e != api.ErrLarge {
			t.Error(len(l), e)
		}
	}
	if e := fib.Check(make([]api.Route, 1, 100)); e != api.OK {
		t.Error("room behind a list is none of it", e)
	}
}

// P1, P9: each part of a route in, at and beyond its bounds.
func TestCheckParts(t *testing.T) {
	taken := 0
	for _, value := range wild {
		for _, bits := range wild {
			for _, port := range wild {
				r := api.Route{Value: value, Bits: bits, Port: port}
				want := api.ErrArg
				if good(r) {
					want = api.OK
					taken++
				}
				if e := fib.Check([]api.Route{r}); e != want {
					t.Fatal(r, e)
				}
			}
		}
	}
	if taken == 0 {
		t.Error("none was taken")
	}
}

// P9: which values have no bit behind their first ones, written out.
func TestCheckBits(t *testing.T) {
	for bits, values := range [][]int{
		{0}, {0, 8}, {0, 4, 8, 12}, {0, 2, 4, 6, 8, 10, 12, 14}, {0, 1, 2, 3, 4, 5, 6, 7, 8, 9, 10, 11, 12, 13, 14, 15},
	} {
		for value := range 16 {
			want := api.ErrArg
			if slices.Contains(values, value) {
				want = api.OK
			}
			for port := range 4 {
				if e := fib.Check([]api.Route{{Value: value, Bits: bits, Port: port}}); e != want {
					t.Error(value, bits, port, e)
				}
			}
		}
	}
}

// P9: two routes for the same addresses, at any two places, at the same port
// or not.
func TestCheckTwice(t *testing.T) {
	all := prefixes()
	for i, r := range all {
		for j, s := range all {
			want := api.OK
			if i == j {
				want = api.ErrName
			}
			for port := range 4 {
				s.Port = port
				if e := fib.Check([]api.Route{r, s}); e != want {
					t.Error(r, s, e)
				}
			}
		}
	}
	r := rand.New(rand.NewSource(21))
	for last := 1; last < 8; last++ {
		for first := range last {
			l := anyList(r, 8)
			l[last].Value, l[last].Bits = l[first].Value, l[first].Bits
			if e := fib.Check(l); e != api.ErrName {
				t.Error(first, last, l, e)
			}
		}
	}
}

// P9: one by one: the first route at which something is wrong tells what.
func TestCheckFirst(t *testing.T) {
	ok, other, wrong := api.Route{Value: 8, Bits: 1}, api.Route{Value: 4, Bits: 2}, api.Route{Value: 1, Bits: 3}
	twiceWrong := api.Route{Value: 8, Bits: 1, Port: 4}
	for i, c := range []struct {
		l    []api.Route
		want api.Errno
	}{
		{[]api.Route{ok, ok, wrong}, api.ErrName},
		{[]api.Route{ok, wrong, ok}, api.ErrArg},
		{[]api.Route{wrong, ok, ok}, api.ErrArg},
		{[]api.Route{wrong, wrong}, api.ErrArg},
		{[]api.Route{ok, other, ok, wrong}, api.ErrName},
		{[]api.Route{ok, other, wrong}, api.ErrArg},
		{[]api.Route{ok, twiceWrong}, api.ErrArg}, // of one route ErrArg first
		{[]api.Route{ok, other}, api.OK},
	} {
		if e := fib.Check(c.l); e != c.want {
			t.Error(i, e, c.want)
		}
	}
	r := rand.New(rand.NewSource(22))
	told := map[api.Errno]int{}
	for range 20000 {
		l := wildList(r, r.Intn(10))
		e := fib.Check(l)
		if e != check(l) {
			t.Fatal(l, e, check(l))
		}
		told[e]++
	}
	for _, e := range []api.Errno{api.OK, api.ErrArg, api.ErrName, api.ErrLarge} {
		if told[e] < 100 {
			t.Error("hardly ever told:", e, told[e])
		}
	}
}

// P9: which port, written out.
func TestOutKnown(t *testing.T) {
	whole, half := api.Route{Port: 1}, api.Route{Value: 8, Bits: 1, Port: 2}
	quarter, one := api.Route{Value: 12, Bits: 2, Port: 3}, api.Route{Value: 13, Bits: 4}
	for i, c := range []struct {
		l    []api.Route
		want string // by address: its port, or - if there is none
	}{
		{nil, "----------------"},
		{[]api.Route{}, "----------------"},
		{[]api.Route{whole}, "1111111111111111"},
		{[]api.Route{half}, "--------22222222"},
		{[]api.Route{quarter}, "------------3333"},
		{[]api.Route{one}, "-------------0--"},
		{[]api.Route{half, quarter}, "--------22223333"},
		{[]api.Route{quarter, half}, "--------22223333"},
		{[]api.Route{whole, half, quarter, one}, "1111111122223033"},
		{[]api.Route{one, quarter, half, whole}, "1111111122223033"},
		{[]api.Route{quarter, whole, one, half}, "1111111122223033"},
		{[]api.Route{{Value: 6, Bits: 3, Port: 2}, {Value: 15, Bits: 4, Port: 1}}, "------22-------1"},
		// of as many bits the first one
		{[]api.Route{{Value: 8, Bits: 1, Port: 3}, half}, "--------33333333"},
		{[]api.Route{half, {Value: 8, Bits: 1, Port: 3}}, "--------22222222"},
		{[]api.Route{whole, {Port: 2}, {Port: 3}}, "1111111111111111"},
		// without those that none may be
		{[]api.Route{{Bits: -1, Port: 2}, whole}, "1111111111111111"},
		{[]api.Route{{Bits: 5, Port: 2}, whole}, "1111111111111111"},
		{[]api.Route{{Value: 16, Bits: 4, Port: 2}, whole}, "1111111111111111"},
		{[]api.Route{{Value: -16, Bits: 0, Port: 2}, whole}, "1111111111111111"},
		{[]api.Route{{Value: 9, Bits: 1, Port: 2}, whole}, "1111111111111111"},
		{[]api.Route{{Value: 15, Bits: 3, Port: 2}, quarter}, "------------3333"},
		{[]api.Route{{Value: 8, Bits: 1, Port: 4}, whole}, "1111111111111111"},
		{[]api.Route{{Value: 8, Bits: 1, Port: -1}, whole}, "1111111111111111"},
		{[]api.Route{{Value: 8, Bits: 1, Port: 4}, half}, "--------22222222"},
		{[]api.Route{{Port: 4}}, "----------------"},
	} {
		got := ""
		for dst := range 16 {
			port, ok := fib.Out(c.l, dst)
			switch {
			case ok:
				got += strconv.Itoa(port)
			case port == 0:
				got += "-"
			default:
				got += "?"
			}
		}
		if got != c.want {
			t.Error(i, got, c.want)
		}
	}
}

// P1, P9: addresses that none may be go out nowhere, also not by a route that
// takes all, or looks as if it took them.
func TestOutWildAddress(t *testing.T) {
	lists := append(someLists(), []api.Route{{Value: 16, Bits: 4}, {Value: -1, Bits: 4}, {Bits: -60}, {Bits: 100}})
	for _, l := range lists {
		for _, dst := range wild {
			port, ok := fib.Out(l, dst)
			if wantPort, wantOK := out(l, dst); port != wantPort || ok != wantOK {
				t.Fatal(l, dst, port, ok)
			}
		}
	}
}

// P9: each route alone, of all kinds, for each address.
func TestOutOfOne(t *testing.T) {
	for _, value := range wild {
		for _, bits := range wild {
			for _, port := range wild {
				l := []api.Route{{Value: value, Bits: bits, Port: port}}
				for dst := -1; dst < 17; dst++ {
					got, ok := fib.Out(l, dst)
					if want, wantOK := out(l, dst); got != want || ok != wantOK {
						t.Fatal(l, dst, got, ok)
					}
				}
			}
		}
	}
}

// P9: of any list, such as Check refuses, too.
func TestOutOfAnyList(t *testing.T) {
	r := rand.New(rand.NewSource(23))
	for range 3000 {
		l := wildList(r, r.Intn(24))
		for dst := -1; dst < 17; dst++ {
			port, ok := fib.Out(l, dst)
			if want, wantOK := out(l, dst); port != want || ok != wantOK {
				t.Fatal(l, dst, port, ok, want, wantOK)
			}
		}
	}
	long := slices.Repeat([]api.Route{{Value: 1, Bits: 1, Port: 1}, {Value: 8, Bits: 1, Port: 2}}, 100000)
	long = append(long, api.Route{Value: 9, Bits: 4, Port: 3}, api.Route{Value: 9, Bits: 4, Port: 1})
	for dst, want := range map[int]int{9: 3, 8: 2, 15: 2} {
		if port, ok := fib.Out(long, dst); port != want || !ok {
			t.Error(dst, port, ok)
		}
	}
	if port, ok := fib.Out(long, 1); port != 0 || ok {
		t.Error(port, ok)
	}
}
