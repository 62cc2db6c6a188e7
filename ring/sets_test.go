package ring

import (
	"math/rand"
	"testing"

	"wireward/api"
	"wireward/bdd"
	"wireward/match"
)

// anyFunction is one with about as many nodes as there can be.
func anyFunction(t *testing.T, r *rand.Rand, a *bdd.Arena, variable int) int {
	t.Helper()
	if variable == match.Vars {
		return r.Intn(2)
	}
	low := anyFunction(t, r, a, variable+1)
	high := anyFunction(t, r, a, variable+1)
	f, e := a.Node(variable, low, high)
	if e != api.OK {
		t.Fatal(e)
	}
	return f
}

// P22: whatever the sets are, there is room for them, and for what is made on
// the way from one hop to the next.
func TestSetsHaveRoom(t *testing.T) {
	r := rand.New(rand.NewSource(1))
	var n api.Net
	for i := range api.MaxDevices {
		d := api.Device{Name: string(rune('a' + i)), Kind: api.KRouter}
		for range api.MaxRules {
			set := func() uint16 { return uint16(r.Uint32() | r.Uint32()) }
			m := api.Match{Src: set(), Dst: set(), Sport: uint8(set()), Dport: uint8(set())}
			d.Rules = append(d.Rules, api.Rule{Permit: len(d.Rules)%2 == 1, Match: m})
		}
		for k := range api.MaxRoutes {
			d.Routes = append(d.Routes, api.Route{Value: 2 * k, Bits: 3, Port: r.Intn(4)})
		}
		n.Devices = append(n.Devices, d)
		n.Links = append(n.Links, api.Link{A: i, P: 0, B: (i + 1) % api.MaxDevices, Q: 1})
	}
	for i := range api.MaxLinks - len(n.Links) {
		n.Links = append(n.Links, api.Link{A: i, P: 2, B: i + 5, Q: 3})
	}
	if e := Check(n); e != api.OK {
		t.Fatal(e)
	}
	s, e := everything()
	if e != api.OK {
		t.Fatal(e)
	}
	for i := range s.at {
		s.at[i] = anyFunction(t, r, s.arena, 0)
	}
	next, e := s.hop(n)
	if e != api.OK || next.arena.Size() < 1000 {
		t.Error(e, "with", s.arena.Size(), "nodes ahead")
	}
}
