package acl_test

import (
	"math/rand"
	"slices"
	"sync"
	"testing"

	"wireward/acl"
	"wireward/api"
	"wireward/bdd"
	"wireward/match"
	"wireward/packet"
)

func newArena(t *testing.T, vars, most int) *bdd.Arena {
	t.Helper()
	a, e := bdd.New(vars, most)
	if e != api.OK {
		t.Fatal(e)
	}
	return a
}

func build(t *testing.T, a *bdd.Arena, l []api.Rule) int {
	t.Helper()
	f, e := acl.Build(a, l)
	if e != api.OK {
		t.Fatal(l, e)
	}
	return f
}

func dead(t *testing.T, a *bdd.Arena, l []api.Rule) []int {
	t.Helper()
	d, e := acl.Dead(a, l)
	if e != api.OK {
		t.Fatal(l, e)
	}
	return d
}

// leftOut is a list without rule i, written apart from the program.
func leftOut(l []api.Rule, i int) []api.Rule {
	var rest []api.Rule
	for j := range l {
		if j != i {
			rest = append(rest, l[j])
		}
	}
	return rest
}

// deadOf is Dead, written apart from the program: by all packets.
func deadOf(l []api.Rule) []int {
	var d []int
	whole := table(l)
	for i := range l {
		if slices.Equal(table(leftOut(l, i)), whole) {
			d = append(d, i)
		}
	}
	return d
}

// scattered is a list of two rules whose sets have hardly a row, so that its
// functions have many nodes.
func scattered() []api.Rule {
	return []api.Rule{
		{Permit: false, Match: api.Match{Src: 0x1ee1, Dst: 0x6b94, Sport: 0x96, Dport: 0x69}},
		{Permit: true, Match: api.Match{Src: 0x2d68, Dst: 0x96e1, Sport: 0x6d, Dport: 0xb2}},
	}
}

// P8: Build is Lets, for all packets.
func TestBuildIsLets(t *testing.T) {
	for _, l := range someLists(t) {
		a := newArena(t, 14, api.MaxNodes)
		f := build(t, a, l)
		count := 0
		for code, want := range table(l) {
			if is, e := a.Eval(f, code); is != want || e != api.OK {
				t.Fatal(l, code, is, e)
			}
			if want {
				count++
			}
		}
		if n, e := a.Count(f); n != count || e != api.OK {
			t.Error(l, n, e)
		}
	}
}

// P8: functions that are known by other calls.
func TestBuildKnown(t *testing.T) {
	a := newArena(t, 14, api.MaxNodes)
	r := rand.New(rand.NewSource(9))
	all, none := permit(t, "* * * *"), deny(t, "* * * *")
	is := func(what string, f int, l ...api.Rule) {
		t.Helper()
		if g := build(t, a, l); g != f {
			t.Error(what, l, g, f)
		}
	}
	is("no rule", 0)
	is("all", 1, all)
	is("none", 0, none)
	for range 50 {
		m, k := anyRule(r).Match, anyRule(r).Match
		f, e := match.Build(a, m)
		if e != api.OK {
			t.Fatal(e)
		}
		g, _ := match.Build(a, k)
		not, _ := a.Not(f)
		or, _ := a.Or(f, g)
		but, _ := a.And(not, g)
		yes, no := api.Rule{Permit: true, Match: m}, api.Rule{Match: m}
		also := api.Rule{Permit: true, Match: k}
		is("permit", f, yes)
		is("deny", 0, no)
		is("all but", not, no, all)
		is("both", or, yes, also)
		is("either way", or, also, yes)
		is("one but the other", but, no, also)
		is("behind a rule for all", 1, all, no, also)
		is("behind a rule for all", 0, none, yes, also)
		is("in between", f, yes, none, also, all)
	}
}

// P8: lists of the same packets have the same number, also in an arena with
// other functions.
func TestBuildAmongOthers(t *testing.T) {
	a := newArena(t, 14, api.MaxNodes)
	r := rand.New(rand.NewSource(10))
	numbers := map[int][]bool{}
	for range 60 {
		l := anyList(r, r.Intn(4))
		f, is := build(t, a, l), table(l)
		if was, ok := numbers[f]; ok && !slices.Equal(was, is) {
			t.Fatal("one number of two functions", l, f)
		}
		for g, was := range numbers {
			if g != f && slices.Equal(was, is) {
				t.Fatal("two numbers of one function", l, f, g)
			}
		}
		numbers[f] = is
		size := a.Size()
		if again := build(t, a, l); again != f || a.Size() != size {
			t.Fatal("again", l, again, f)
		}
	}
}

// P8: of more variables the first 14 are meant.
func TestBuildMoreVariables(t *testing.T) {
	r := rand.New(rand.NewSource(11))
	for vars := 15; vars <= 16; vars++ {
		for rules := range api.MaxRules + 1 {
			l := anyList(r, rules)
			a := newArena(t, vars, api.MaxNodes)
			f, is := build(t, a, l), table(l)
			for bits := range 1 << vars {
				if got, e := a.Eval(f, bits); got != is[bits>>(vars-14)] || e != api.OK {
					t.Fatal(vars, l, bits, got, e)
				}
			}
			if d := dead(t, a, l); !slices.Equal(d, deadOf(l)) {
				t.Error(vars, l, d)
			}
		}
	}
}

// P8: too many rules are told first, then too few variables, whatever the
// rules are; nothing is made then.
func TestWrongArguments(t *testing.T) {
	large := [][]api.Rule{make([]api.Rule, 9), slices.Repeat([]api.Rule{permit(t, "1 2 3 4")}, 9), make([]api.Rule, 10000)}
	refuses := func(a *bdd.Arena, l []api.Rule, want api.Errno) {
		t.Helper()
		size := a.Size()
		if f, e := acl.Build(a, l); f != 0 || e != want || a.Size() != size {
			t.Error("Build", len(l), f, e, a.Size())
		}
		if d, e := acl.Dead(a, l); d != nil || e != want || a.Size() != size {
			t.Error("Dead", len(l), d, e, a.Size())
		}
	}
	for vars := 1; vars <= 16; vars++ {
		for _, most := range []int{2, 20, api.MaxNodes} {
			a := newArena(t, vars, most)
			for _, l := range large {
				refuses(a, l, api.ErrLarge)
			}
			if vars >= 14 {
				continue
			}
			for _, l := range someLists(t) {
				refuses(a, l, api.ErrArg)
			}
		}
	}
	refuses(new(bdd.Arena), large[0], api.ErrLarge)
	refuses(new(bdd.Arena), nil, api.ErrArg)
}

// P8: without room the error is the arena's; with just the function's own
// nodes there is room.
func TestBuildFull(t *testing.T) {
	for _, l := range someLists(t) {
		wide := newArena(t, 14, api.MaxNodes)
		f := build(t, wide, l)
		needs := wide.Size()
		// Nothing is made for nothing: the function is the last one there.
		if needs != max(2, f+1) {
			t.Error(l, f, needs)
		}
		for most := 2; most < needs; most += 1 + needs/40 {
			a := newArena(t, 14, most)
			if g, e := acl.Build(a, l); g != 0 || e != api.ErrFull || a.Size() != most {
				t.Fatal(l, most, needs, g, e, a.Size())
			}
			if d, e := acl.Dead(a, l); d != nil || e != api.ErrFull || a.Size() != most {
				t.Fatal(l, most, needs, d, e, a.Size())
			}
		}
		a := newArena(t, 14, needs)
		for range 2 { // what is there needs no room
			if g, e := acl.Build(a, l); g != f || e != api.OK || a.Size() != needs {
				t.Error(l, needs, g, e, a.Size())
			}
		}
	}
}

// P8: Dead needs the lists without a rule, too: with no room for them the
// error is the arena's.
func TestDeadFull(t *testing.T) {
	l := []api.Rule{permit(t, "* * * *"), permit(t, "1 2 3 4")}
	for most := 2; most < 16; most++ {
		a := newArena(t, 14, most)
		if d, e := acl.Dead(a, l); d != nil || e != api.ErrFull || a.Size() != most {
			t.Error(most, d, e, a.Size())
		}
	}
	if d := dead(t, newArena(t, 14, 16), l); !slices.Equal(d, []int{1}) {
		t.Error(d)
	}
}

// P8: in an arena in which nothing was made there is room for two rules; so
// there is, as these functions are made, for eight.
func TestRoom(t *testing.T) {
	r := rand.New(rand.NewSource(12))
	lists := [][]api.Rule{scattered()}
	for range 30 {
		var l []api.Rule
		for range api.MaxRules {
			m := api.Match{Src: uint16(r.Intn(1 << 16)), Dst: uint16(r.Intn(1 << 16)), Sport: uint8(r.Intn(1 << 8)), Dport: uint8(r.Intn(1 << 8))}
			l = append(l, api.Rule{Permit: len(l)%2 == 1, Match: m})
		}
		lists = append(lists, l[:2], l)
	}
	for _, l := range lists {
		for vars := 14; vars <= 16; vars++ {
			build(t, newArena(t, vars, api.MaxNodes), l)
			dead(t, newArena(t, vars, api.MaxNodes), l)
		}
	}
}

// P8: rules that can be left out, written out.
func TestDeadKnown(t *testing.T) {
	all, none := permit(t, "* * * *"), deny(t, "* * * *")
	one, two := permit(t, "1 * * *"), permit(t, "2 * * *")
	for i, c := range []struct {
		l    []api.Rule
		want []int
	}{
		{nil, nil},
		{[]api.Rule{one}, nil},
		{[]api.Rule{none}, []int{0}}, // what none has isn't let through either
		{[]api.Rule{deny(t, "1 2 3 4")}, []int{0}},
		{[]api.Rule{permit(t, "* - * *")}, []int{0}},
		{[]api.Rule{permit(t, "- * * *"), one, permit(t, "* * * -")}, []int{0, 2}},
		{[]api.Rule{one, two}, nil},
		{[]api.Rule{one, one}, []int{0, 1}}, // each alone
		{[]api.Rule{one, one, one}, []int{0, 1, 2}},
		{[]api.Rule{permit(t, "1-2 * * *"), one, two}, []int{0, 1, 2}},
		{[]api.Rule{one, all}, []int{0}},
		{[]api.Rule{all, one}, []int{1}},
		{[]api.Rule{deny(t, "1 * * *"), all}, nil},
		{[]api.Rule{all, deny(t, "1 * * *"), none}, []int{1, 2}},
		{[]api.Rule{none, one, all}, []int{1, 2}},
		{[]api.Rule{one, none, all}, []int{2}},
		{[]api.Rule{one, none}, []int{1}},
		{[]api.Rule{deny(t, "1 * * *"), permit(t, "0-3 * * *"), permit(t, "2 * 5 *"), deny(t, "9 * * *")}, []int{2, 3}},
		// only both together take what a third one has
		{[]api.Rule{permit(t, "0-7 * * *"), permit(t, "8-15 * * *"), deny(t, "7-8 * * *")}, []int{2}},
		{make([]api.Rule, 8), []int{0, 1, 2, 3, 4, 5, 6, 7}},
		{slices.Repeat([]api.Rule{all}, 8), []int{0, 1, 2, 3, 4, 5, 6, 7}},
	} {
		if d := dead(t, newArena(t, 14, api.MaxNodes), c.l); !slices.Equal(d, c.want) {
			t.Error(i, d, c.want)
		}
	}
}

// P8: a rule that hangs on one packet alone, the first and the last among
// them, isn't dead.
func TestDeadOnePacket(t *testing.T) {
	a := newArena(t, 14, api.MaxNodes)
	for code := 0; code < api.Packets; code += 127 { // 16383 is 129 times 127
		p, _ := packet.Of(code)
		m := api.Match{Src: 1 << p.Src, Dst: 1 << p.Dst, Sport: 1 << p.Sport, Dport: 1 << p.Dport}
		l := []api.Rule{{Match: m}, permit(t, "* * * *"), {Permit: true, Match: m}}
		if d := dead(t, a, l); !slices.Equal(d, []int{2}) {
			t.Fatal(p, d)
		}
	}
}

// P8: against all packets.
func TestDeadIsSame(t *testing.T) {
	told := 0
	for _, l := range someLists(t) {
		d, want := dead(t, newArena(t, 14, api.MaxNodes), l), deadOf(l)
		if !slices.Equal(d, want) {
			t.Error(l, d, want)
		}
		told += len(d)
	}
	if told < 20 {
		t.Error("hardly a dead rule was among them:", told)
	}
}

// P2: lists, and the room behind them, stay as they are; and no answer hangs
// on them afterwards.
func TestListsStay(t *testing.T) {
	r := rand.New(rand.NewSource(13))
	for range 20 {
		room := anyList(r, 12)
		was := slices.Clone(room)
		l := room[1:7]
		a := newArena(t, 14, api.MaxNodes)
		acl.Check(l)
		acl.Lets(l, api.Packet{Src: 1})
		f := build(t, a, l)
		d := dead(t, a, l)
		want, is := slices.Clone(d), table(l)
		if !slices.Equal(room, was) {
			t.Fatal("changed", room, was)
		}
		clear(room)
		for code := range is {
			if got, _ := a.Eval(f, code); got != is[code] {
				t.Fatal(code, got)
			}
		}
		if !slices.Equal(d, want) {
			t.Error(d, want)
		}
	}
}

// P2: each answer is new memory, spare room included.
func TestDeadIsNew(t *testing.T) {
	a := newArena(t, 14, api.MaxNodes)
	l := slices.Repeat([]api.Rule{permit(t, "* * * *")}, 5)
	first := dead(t, a, l)
	second := dead(t, a, l)
	first = first[:cap(first)]
	for i := range first {
		first[i] = -1
	}
	if !slices.Equal(second, []int{0, 1, 2, 3, 4}) || !slices.Equal(dead(t, a, l), second) {
		t.Error(second)
	}
}

// P2: answers hang on what was handed in alone: not on calls ahead, failed
// ones included, nor on those of others at the same time.
func TestNothingIsKept(t *testing.T) {
	lists := someLists(t)
	var all sync.WaitGroup
	answers := make([][]int, 4)
	for k := range answers {
		all.Go(func() {
			for i := range lists {
				l := lists[(i+k*7)%len(lists)]
				small, _ := bdd.New(14, 2)
				acl.Build(small, l)
				acl.Dead(small, l)
			}
			for _, l := range lists {
				a, _ := bdd.New(14, api.MaxNodes)
				f, _ := acl.Build(a, l)
				d, _ := acl.Dead(a, l)
				answers[k] = append(append(answers[k], f, a.Size(), len(d)), d...)
			}
		})
	}
	all.Wait()
	for _, x := range answers[1:] {
		if !slices.Equal(x, answers[0]) {
			t.Error("answers differ")
		}
	}
}
