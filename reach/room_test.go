package reach_test

import (
	"math/rand"
	"sort"
	"testing"

	"wireward/api"
	"wireward/match"
	"wireward/reach"
)

// leastMost is the least number of nodes with which there are the sets of a
// net.
func leastMost(t *testing.T, n api.Net) int {
	t.Helper()
	return sort.Search(api.MaxNodes, func(most int) bool {
		_, e := reach.New(n, most)
		return e == api.OK
	})
}

// node is a function of the bits behind some first ones, as a table of them.
type node struct {
	depth int
	table string
}

// addNodes adds the nodes of the function of a table to nodes.
func addNodes(nodes map[node]bool, table string, depth int) {
	if len(table) == 1 || nodes[node{depth, table}] {
		return
	}
	half := len(table) / 2
	if table[:half] != table[half:] {
		nodes[node{depth, table}] = true
		addNodes(nodes, table[half:], depth+1)
	}
	addNodes(nodes, table[:half], depth+1)
}

// needs is how many nodes the sets of a model have, in all, with the two that
// there always are.
func (m *model) needs() int {
	nodes := map[node]bool{}
	for i, d := range m.n.Devices {
		for port := range portsOf[d.Kind] {
			for k := range m.rounds + 1 {
				table := make([]byte, api.Packets)
				for code, round := range m.round[i][port] {
					if round >= 0 && round <= k {
						table[code] = 1
					}
				}
				addNodes(nodes, string(table), 0)
			}
		}
	}
	return 2 + len(nodes)
}

// P17: there is room just if the sets have it: with one node fewer they don't.
func TestRoom(t *testing.T) {
	for seed := range int64(12) {
		r := rand.New(rand.NewSource(seed))
		n := anyNet(r, 1+r.Intn(6), 1)
		m := modelOf(t, n, byWords)
		least := m.needs()
		got, e := reach.New(n, least)
		if e != api.OK {
			t.Fatal(n, least, e)
		}
		m.same(t, got)
		for most := 2; most < least; most += 1 + most/8 {
			if got, e := reach.New(n, most); e != api.ErrFull || got != nil {
				t.Fatal(n, most, e)
			}
		}
		if got, e := reach.New(n, least-1); got != nil || e != api.ErrFull && least > 2 {
			t.Fatal(n, least-1, e)
		}
	}
}

// P17: a net of three devices with one rule has room.
func TestRoomForThree(t *testing.T) {
	for seed := range int64(400) {
		r := rand.New(rand.NewSource(seed))
		n := anyNet(r, 1+r.Intn(3), 0)
		one := r.Intn(len(n.Devices))
		for i := range n.Devices {
			if d := &n.Devices[i]; i != one {
				d.Rules = nil
			} else if len(d.Rules) > 0 && r.Intn(4) > 0 {
				d.Rules[0].Match = anyMatch(r)
			}
		}
		fresh(t, n)
	}
}

// P17: a net with as much of everything as there may be either has no room or
// is told rightly.
func TestGreatNets(t *testing.T) {
	for seed := range int64(6) {
		r := rand.New(rand.NewSource(seed))
		n := anyNet(r, api.MaxDevices, 0)
		for i := range n.Devices {
			if d := &n.Devices[i]; len(d.Rules) > 0 {
				d.Rules = nil
				for range api.MaxRules - 1 {
					d.Rules = append(d.Rules, api.Rule{Permit: r.Intn(2) == 0, Match: anyMatch(r)})
				}
				d.Rules = append(d.Rules, api.Rule{Permit: true, Match: match.All()})
			}
		}
		if got, e := reach.New(n, api.MaxNodes); e == api.OK {
			modelOf(t, n, byWords).same(t, got)
		} else if e != api.ErrFull {
			t.Error(n, e)
		}
	}
}
