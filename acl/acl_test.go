package acl_test

import (
	"math"
	"math/rand"
	"slices"
	"testing"

	"wireward/acl"
	"wireward/api"
	"wireward/match"
	"wireward/packet"
)

// has is match.In, written apart from the program.
func has(m api.Match, p api.Packet) bool {
	in := func(set uint16, n int) bool {
		for k := range 16 {
			if k == n && set&(1<<k) != 0 {
				return true
			}
		}
		return false
	}
	return in(m.Src, p.Src) && in(m.Dst, p.Dst) && in(uint16(m.Sport), p.Sport) && in(uint16(m.Dport), p.Dport)
}

// lets is Lets, written apart from the program: from the last rule to the
// first, each one takes its packets from those behind it.
func lets(l []api.Rule, p api.Packet) bool {
	is := false
	for i := len(l) - 1; i >= 0; i-- {
		if has(l[i].Match, p) {
			is = l[i].Permit
		}
	}
	return is
}

// table has, by their codes, the packets that a list lets through.
func table(l []api.Rule) []bool {
	is := make([]bool, api.Packets)
	for code := range is {
		p, _ := packet.Of(code)
		is[code] = lets(l, p)
	}
	return is
}

func rule(t *testing.T, permit bool, s string) api.Rule {
	t.Helper()
	m, e := match.Parse(s)
	if e != api.OK {
		t.Fatalf("%q: %v", s, e)
	}
	return api.Rule{Permit: permit, Match: m}
}

func permit(t *testing.T, s string) api.Rule { t.Helper(); return rule(t, true, s) }

func deny(t *testing.T, s string) api.Rule { t.Helper(); return rule(t, false, s) }

// anyRule has small, great, empty and whole sets.
func anyRule(r *rand.Rand) api.Rule {
	set := func() uint16 {
		switch r.Intn(12) {
		case 0:
			return uint16(r.Intn(2)) * 0x8080
		case 1, 2, 3, 4:
			return math.MaxUint16
		case 5, 6:
			return 0x0101 << r.Intn(8)
		}
		return uint16(r.Intn(1 << 16))
	}
	m := api.Match{Src: set(), Dst: set(), Sport: uint8(set()), Dport: uint8(set())}
	return api.Rule{Permit: r.Intn(2) == 0, Match: m}
}

// anyList has rules twice and parts of one another, too, so that some of them
// are dead.
func anyList(r *rand.Rand, rules int) []api.Rule {
	var l []api.Rule
	for len(l) < rules {
		x := anyRule(r)
		if len(l) > 0 && r.Intn(3) == 0 {
			y := l[r.Intn(len(l))]
			x.Match.Src = y.Match.Src & uint16(r.Intn(1<<16)|r.Intn(1<<16))
			x.Match.Dst, x.Match.Sport, x.Match.Dport = y.Match.Dst, y.Match.Sport, y.Match.Dport
		}
		l = append(l, x)
	}
	return l
}

// someLists are lists of each length, the edges among them.
func someLists(t *testing.T) [][]api.Rule {
	t.Helper()
	lists := [][]api.Rule{
		nil, {}, make([]api.Rule, 8),
		{permit(t, "* * * *")}, {deny(t, "* * * *")}, {permit(t, "- - - -")},
		{permit(t, "0 0 0 0")}, {permit(t, "15 7 15 7")},
		{deny(t, "15 7 15 7"), permit(t, "* * * *")},
		{deny(t, "1 * * *"), permit(t, "0-3 * * *"), permit(t, "2 * 5 *"), deny(t, "9 * * *")},
	}
	r := rand.New(rand.NewSource(8))
	for rules := 1; rules <= api.MaxRules; rules++ {
		for range 4 {
			lists = append(lists, anyList(r, rules))
		}
	}
	return lists
}

// P8: at most eight rules, whatever they are.
func TestCheck(t *testing.T) {
	for n := range 20 {
		want := api.OK
		if n > 8 {
			want = api.ErrLarge
		}
		l := make([]api.Rule, n)
		if e := acl.Check(l); e != want {
			t.Error(n, e)
		}
		for i := range l {
			l[i] = permit(t, "* * * *")
		}
		if e := acl.Check(l); e != want {
			t.Error(n, e)
		}
	}
	if e := acl.Check(nil); e != api.OK {
		t.Error(e)
	}
	if e := acl.Check(make([]api.Rule, 100000)); e != api.ErrLarge {
		t.Error(e)
	}
	if e := acl.Check(make([]api.Rule, 8, 100)); e != api.OK {
		t.Error("room behind a list is none of it", e)
	}
}

// P8: the first rule that has a packet decides.
func TestLetsByFirst(t *testing.T) {
	p := api.Packet{Src: 1, Sport: 2, Dst: 3, Dport: 4}
	yes, no, other := permit(t, "1 2 3 4"), deny(t, "1 2 3 4"), permit(t, "2 2 3 4")
	all, none := permit(t, "* * * *"), deny(t, "* * * *")
	for i, c := range []struct {
		l    []api.Rule
		want bool
	}{
		{nil, false},
		{[]api.Rule{}, false},
		{[]api.Rule{yes}, true},
		{[]api.Rule{no}, false},
		{[]api.Rule{other}, false},
		{[]api.Rule{yes, no}, true},
		{[]api.Rule{no, yes}, false},
		{[]api.Rule{other, no, yes}, false},
		{[]api.Rule{other, yes, no}, true},
		{[]api.Rule{all, no}, true},
		{[]api.Rule{none, yes}, false},
		{[]api.Rule{no, all}, false},
		{[]api.Rule{yes, none}, true},
		{[]api.Rule{permit(t, "1 2 3 -"), none, all}, false},
		{[]api.Rule{deny(t, "- * * *"), all}, true},
		{make([]api.Rule, 8), false},
	} {
		if got := acl.Lets(c.l, p); got != c.want {
			t.Error(i, got)
		}
	}
}

// P8: all packets.
func TestLetsAll(t *testing.T) {
	for _, l := range someLists(t) {
		for code, want := range table(l) {
			p, _ := packet.Of(code)
			if got := acl.Lets(l, p); got != want {
				t.Fatal(l, p, got)
			}
		}
	}
}

// P8: Lets takes lists that Check refuses.
func TestLetsOfAnyList(t *testing.T) {
	p := api.Packet{Src: 1, Sport: 2, Dst: 3, Dport: 4}
	for _, n := range []int{7, 8, 9, 30, 100000} {
		l := slices.Repeat([]api.Rule{deny(t, "2 * * *")}, n)
		if acl.Lets(l, p) {
			t.Error(n, "none has it")
		}
		if l = append(l, permit(t, "1 * * *")); !acl.Lets(l, p) {
			t.Error(n, "the last one permits it")
		}
		if l = append(l, deny(t, "* * * *")); !acl.Lets(l, p) {
			t.Error(n, "the last but one permits it")
		}
	}
}

// P1, P8: a packet with a number that none may be is in no match, so that it
// isn't let through.
func TestLetsWild(t *testing.T) {
	wild := []int{math.MinInt, -64, -16, -8, -1, 0, 7, 8, 15, 16, 17, 31, 32, 63, 64, 65, 256, math.MaxInt}
	lists := someLists(t)
	for _, n := range wild {
		for _, p := range []api.Packet{{Src: n}, {Dst: n}, {Sport: n}, {Dport: n}, {Src: n, Dst: n, Sport: n, Dport: n}} {
			for _, l := range lists {
				if got := acl.Lets(l, p); got != lets(l, p) {
					t.Fatal(l, p, got)
				}
			}
			all := []api.Rule{permit(t, "* * * *")}
			if got := acl.Lets(all, p); got != (packet.Check(p) == api.OK) {
				t.Error(p, got)
			}
		}
	}
}
