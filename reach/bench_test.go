package reach

import (
	"math/rand"
	"testing"

	"wireward/api"
	"wireward/bdd"
	"wireward/match"
	"wireward/net"
)

// anyFunction is one that is true of one packet in so many; with about as many
// nodes as there can be.
func anyFunction(t *testing.T, r *rand.Rand, a *bdd.Arena, variable, many int) int {
	t.Helper()
	if variable == match.Vars {
		if r.Intn(many) == 0 {
			return bdd.Always
		}
		return bdd.Never
	}
	low := anyFunction(t, r, a, variable+1, many)
	high := anyFunction(t, r, a, variable+1, many)
	f, e := a.Node(variable, low, high)
	if e != api.OK {
		t.Fatal(e)
	}
	return f
}

func anyRules(r *rand.Rand) []api.Rule {
	var l []api.Rule
	for range api.MaxRules {
		set := func() uint16 { return uint16(r.Uint32() | r.Uint32()) }
		m := api.Match{Src: set(), Dst: set(), Sport: uint8(set()), Dport: uint8(set())}
		l = append(l, api.Rule{Permit: len(l)%2 == 1, Match: m})
	}
	return l
}

// P17: whatever the sets are, what is made on the way to one has room aside.
func TestBenchHasRoom(t *testing.T) {
	r := rand.New(rand.NewSource(1))
	for _, many := range []int{2, 4, 16, 32, 64, 128, 256, 1024} {
		for _, d := range []api.Device{
			{Kind: api.KHost, Addr: 3},
			{Kind: api.KRouter, Rules: anyRules(r), Routes: []api.Route{{Port: 1}, {Value: 8, Bits: 1}}},
			{Kind: api.KFire, Rules: anyRules(r)},
			{Kind: api.KNat, Addr: 9, Pool: 0xb5},
			{Kind: api.KBalancer, Addr: 5, Backs: []int{1, 6, 15}},
		} {
			a, e := bdd.New(match.Vars, api.MaxNodes)
			if e != api.OK {
				t.Fatal(e)
			}
			x := &Reach{arena: *a}
			set, in := anyFunction(t, r, &x.arena, 0, many), ports{}
			for port := range net.Ports(d.Kind) {
				in[port] = anyFunction(t, r, &x.arena, 0, many)
			}
			for port := range net.Ports(d.Kind) {
				if _, e := x.widen(set, d, port, in); e != api.OK {
					t.Error(many, d, port, e)
				}
			}
		}
	}
}
