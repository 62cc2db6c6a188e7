package differ_test

import (
	"fmt"
	"math"
	"math/rand"
	"slices"
	"strings"
	"sync"
	"testing"

	"wireward/api"
	"wireward/differ"
	"wireward/match"
	"wireward/packet"
)

// wild are numbers in, at and beyond the bounds of every part.
var wild = []int{
	math.MinInt, math.MinInt + 1, -1 << 32, -64, -8, -1, 0, 1, 2, 3, 4, 5, 7, 8, 9, 10, 15, 16, 31, 32, 63, 64,
	255, 256, api.MaxNodes, api.MaxNodes + 1, 1 << 16, 1 << 32, 1<<32 + 2, math.MaxInt - 1, math.MaxInt,
}

// read is the packet of a text; of the empty one that of no difference.
func read(t *testing.T, s string) api.Packet {
	t.Helper()
	if s == "" {
		return api.Packet{}
	}
	p, e := packet.Parse(s)
	if e != api.OK {
		t.Fatal(s, e)
	}
	return p
}

// readRules is the list of a text, as `deny 1 * * *; permit * * * *`.
func readRules(t *testing.T, s string) []api.Rule {
	t.Helper()
	var l []api.Rule
	for _, line := range strings.Split(s, "; ") {
		if line == "" {
			continue
		}
		word, text, _ := strings.Cut(line, " ")
		m, e := match.Parse(text)
		if e != api.OK || word != "permit" && word != "deny" {
			t.Fatal(line, e)
		}
		l = append(l, api.Rule{Permit: word == "permit", Match: m})
	}
	return l
}

// P24: which packet just one of two lists lets through, and which list does;
// with the lists exchanged it is the same one, and the other list.
func TestRules(t *testing.T) {
	eight := strings.Repeat("deny 1 * * *; ", 7) + "permit * * * *"
	for _, c := range []struct {
		a, b, packet string
		which        int
	}{
		{"", "", "", 0},
		{"permit * * * *", "permit * * * *", "", 0},
		{"permit * * * *", "", "0:0>0:0", 1},
		{"permit * * * *", "deny * * * *", "0:0>0:0", 1},
		{"permit 0 0 0 0", "", "0:0>0:0", 1},
		{"permit 15 7 15 7", "", "15:7>15:7", 1},
		{"permit * * * *", "deny 15 7 15 7; permit * * * *", "15:7>15:7", 1},
		{"permit 1-3 * * *", "permit 1,3 * * *", "2:0>0:0", 1},
		{"permit 1-3 * * *", "permit 1,2,3 * * *", "", 0},
		// each part by itself, and a part that is looked at ahead of another
		{"permit 4 5 6 7", "permit 4-5 5 6 7", "5:5>6:7", 2},
		{"permit 4 5 6 7", "permit 4 5 6,8 7", "4:5>8:7", 2},
		{"permit 4 5 6 7", "permit 4 4-5 6 7", "4:4>6:7", 2},
		{"permit 4 5 6 7", "permit 4 5 6 1,7", "4:5>6:1", 2},
		{"permit 4 5 6 7", "permit 4 5 6,8 6-7", "4:5>6:6", 2},
		{"permit 4 5 6 7", "permit 4 3,5 6,8 7", "4:3>6:7", 2},
		// both have some that the other one hasn't
		{"permit 3 * * *", "permit 2 * * *", "2:0>0:0", 2},
		{"permit 3 * 1 *", "permit 3 * 2 *", "3:0>1:0", 1},
		{"permit 3 4 * 5", "permit 3 4 * 6", "3:4>0:5", 1},
		{"permit * 0-3 * *", "permit * 4-7 * *", "0:0>0:0", 1},
		// the first rule that has a packet is the one that counts
		{"deny 1 * * *; permit * * * *", "permit * * * *; deny 1 * * *", "1:0>0:0", 2},
		{"deny 1 * * *; permit * * * *", "permit 0,2-15 * * *", "", 0},
		{"permit * * 9 *; permit * * 10 *", "permit * * 9-10 *", "", 0},
		{"permit * * 9 *; deny * * 9-10 *; permit * * * *", "deny * * 10 *; permit * * * *", "", 0},
		{"deny * * 9 *; permit * * 9-10 *", "permit * * 10 *; permit * 7 9 *", "0:7>9:0", 2},
		// rules that have nothing
		{"permit - * * *; permit * - * *; permit * * - *; permit * * * -", "", "", 0},
		{"deny - * * *; permit 2 * * *", "permit 2 * * *", "", 0},
		// as many rules as there may be
		{eight, "deny 1 * * *; permit * * * *", "", 0},
		{eight, "permit * * * *", "1:0>0:0", 2},
	} {
		a, b := readRules(t, c.a), readRules(t, c.b)
		want := read(t, c.packet)
		if p, k, e := differ.Rules(a, b, api.MaxNodes); e != api.OK || p != want || k != c.which {
			t.Error(c, p, k, e)
		}
		if p, k, e := differ.Rules(b, a, api.MaxNodes); e != api.OK || p != want || k != (3-c.which)%3 {
			t.Error("exchanged:", c, p, k, e)
		}
	}
}

// tableOf is, code by code, a 1 for each packet that a list lets through, by the
// words of the chapters.
func tableOf(l []api.Rule) []byte {
	table := make([]byte, api.Packets)
	for code := range table {
		src, dst, sport, dport := code>>10, code>>6&15, code>>3&7, code&7
		for _, r := range l {
			m := r.Match
			if m.Src>>src&1 == 1 && m.Dst>>dst&1 == 1 && m.Sport>>sport&1 == 1 && m.Dport>>dport&1 == 1 {
				if r.Permit {
					table[code] = 1
				}
				break
			}
		}
	}
	return table
}

// apart is the least code at which two tables differ, as a packet, and which of
// them has it.
func apart(a, b []byte) (api.Packet, int) {
	for code := range a {
		if a[code] != b[code] {
			return api.Packet{Src: code >> 10, Dst: code >> 6 & 15, Sport: code >> 3 & 7, Dport: code & 7}, 2 - int(a[code])
		}
	}
	return api.Packet{}, 0
}

func anyMatch(r *rand.Rand) api.Match {
	set := func() uint16 {
		switch r.Intn(4) {
		case 0, 1:
			return 0xffff
		case 2:
			return uint16(r.Uint32() | r.Uint32())
		}
		return uint16(r.Uint32())
	}
	return api.Match{Src: set(), Dst: set(), Sport: uint8(set()), Dport: uint8(set())}
}

func anyRules(r *rand.Rand, count int) []api.Rule {
	var l []api.Rule
	for range count {
		l = append(l, api.Rule{Permit: r.Intn(2) == 0, Match: anyMatch(r)})
	}
	return l
}

// near is a list that differs a little from another, if at all.
func near(r *rand.Rand, l []api.Rule) []api.Rule {
	l = slices.Clone(l)
	for range r.Intn(3) {
		if len(l) == 0 {
			break
		}
		i := r.Intn(len(l))
		m := &l[i].Match
		switch r.Intn(7) {
		case 0:
			m.Src ^= 1 << r.Intn(16)
		case 1:
			m.Dst ^= 1 << r.Intn(16)
		case 2:
			m.Sport ^= 1 << r.Intn(8)
		case 3:
			m.Dport ^= 1 << r.Intn(8)
		case 4:
			l[i].Permit = !l[i].Permit
		case 5:
			l = slices.Delete(l, i, i+1)
		default:
			j := r.Intn(len(l))
			l[i], l[j] = l[j], l[i]
		}
	}
	return l
}

// P24: lists of all kinds, packet by packet.
func TestAnyRules(t *testing.T) {
	same, late := 0, 0
	told := map[int]int{}
	for seed := range int64(1200) {
		r := rand.New(rand.NewSource(seed))
		a := anyRules(r, r.Intn(api.MaxRules+1))
		b := near(r, a)
		if seed%6 == 0 {
			b = anyRules(r, r.Intn(api.MaxRules+1))
		}
		want, which := apart(tableOf(a), tableOf(b))
		p, k, e := differ.Rules(a, b, api.MaxNodes)
		if e != api.OK || p != want || k != which {
			t.Fatal(a, b, p, k, e, "not", want, which)
		}
		told[k]++
		if k == 0 && !slices.Equal(a, b) {
			same++
		}
		if p.Src > 0 && p.Dst > 0 && p.Sport+p.Dport > 0 {
			late++
		}
	}
	if told[0] < 100 || told[1] < 100 || told[2] < 100 || same < 30 || late < 30 {
		t.Error("hardly tried", told, same, late)
	}
}

// node is a function of the bits behind some first ones, as a table of them.
type node struct {
	depth int
	table string
}

// addNodes adds the nodes of the function of a table to nodes.
func addNodes(nodes map[node]bool, table string, depth int) {
	if len(table) == 1 || nodes[node{depth, table}] {
		return
	}
	half := len(table) / 2
	if table[:half] != table[half:] {
		nodes[node{depth, table}] = true
		addNodes(nodes, table[half:], depth+1)
	}
	addNodes(nodes, table[:half], depth+1)
}

// P24: there is room just if both lists have it: with one node fewer they
// don't, whether they differ or not.
func TestRoomForRules(t *testing.T) {
	for seed := range int64(60) {
		r := rand.New(rand.NewSource(seed))
		a := anyRules(r, r.Intn(5))
		b := near(r, a)
		nodes := map[node]bool{}
		addNodes(nodes, string(tableOf(a)), 0)
		addNodes(nodes, string(tableOf(b)), 0)
		least := 2 + len(nodes)
		want, which := apart(tableOf(a), tableOf(b))
		for _, most := range []int{2, least / 2, least - 1, least, least + 1, api.MaxNodes} {
			p, k, e := differ.Rules(a, b, most)
			switch {
			case most < 2:
				continue
			case most < least && (e != api.ErrFull || k != 0 || p != api.Packet{}):
				t.Error(a, b, most, p, k, e, "is full with less than", least)
			case most >= least && (e != api.OK || k != which || p != want):
				t.Error(a, b, most, p, k, e, "has room with", least)
			}
		}
	}
}

// P24: lists that let through all, or nothing, need no node but the two that
// there always are.
func TestRulesWithoutNodes(t *testing.T) {
	all, none := readRules(t, "permit * * * *"), readRules(t, "deny 1 * * *")
	for _, c := range []struct {
		a, b  []api.Rule
		which int
	}{{nil, nil, 0}, {all, all, 0}, {nil, none, 0}, {all, none, 1}, {[]api.Rule{}, all, 2}} {
		if p, k, e := differ.Rules(c.a, c.b, 2); e != api.OK || k != c.which || p != (api.Packet{}) {
			t.Error(c, p, k, e)
		}
	}
}

// P24: lists of two rules in all have room in MaxNodes nodes; so have the
// longest ones.
func TestRulesHaveRoom(t *testing.T) {
	for seed := range int64(300) {
		r := rand.New(rand.NewSource(seed))
		inA := r.Intn(3)
		a, b := anyRules(r, inA), anyRules(r, 2-inA)
		if seed%3 == 0 {
			a, b = anyRules(r, api.MaxRules), anyRules(r, api.MaxRules)
		}
		if _, _, e := differ.Rules(a, b, api.MaxNodes); e != api.OK {
			t.Error(a, b, e)
		}
	}
}

// P24: the errors, in their order; nothing is told beside one.
func TestRulesErrors(t *testing.T) {
	is := func(a, b []api.Rule, most int, want api.Errno) {
		t.Helper()
		if p, k, e := differ.Rules(a, b, most); e != want || k != 0 || p != (api.Packet{}) {
			t.Error(len(a), len(b), most, p, k, e, "not", want)
		}
	}
	some := readRules(t, "permit 1 * * *")
	eight, nine, many := make([]api.Rule, 8), make([]api.Rule, 9), make([]api.Rule, 1<<16)
	for _, most := range wild {
		for _, l := range [][]api.Rule{nine, many} {
			is(l, some, most, api.ErrLarge)
			is(some, l, most, api.ErrLarge)
			is(nil, l, most, api.ErrLarge)
			is(l, l, most, api.ErrLarge)
		}
		if most < 2 || most > api.MaxNodes {
			is(nil, nil, most, api.ErrArg)
			is(some, nil, most, api.ErrArg)
			is(some, some, most, api.ErrArg)
			is(eight, eight, most, api.ErrArg)
			continue
		}
		is(eight, eight, most, api.OK)
		if most < 6 { // a node for each bit of an address, and the two that there always are
			is(some, nil, most, api.ErrFull)
			is(nil, some, most, api.ErrFull)
			is(some, some, most, api.ErrFull)
		}
	}
}

// P2: the lists aren't changed, the room behind them included, and an answer is
// the same each time, whoever else asks.
func TestRulesChangeNothing(t *testing.T) {
	r := rand.New(rand.NewSource(3))
	a, b := anyRules(r, 8), anyRules(r, 8)
	text := func() string { return fmt.Sprint(a, b) }
	was := text()
	p, k, e := differ.Rules(a[:4], b[:5], api.MaxNodes)
	if k == 0 || e != api.OK {
		t.Fatal(p, k, e)
	}
	var wait sync.WaitGroup
	for range 8 {
		wait.Go(func() {
			if q, again, e := differ.Rules(a[:4], b[:5], api.MaxNodes); q != p || again != k || e != api.OK {
				t.Error(q, again, e, "not", p, k)
			}
		})
	}
	wait.Wait()
	if text() != was {
		t.Error("the lists were changed")
	}
}
