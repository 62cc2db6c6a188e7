package ring_test

import (
	"math/rand"
	"slices"
	"testing"

	"wireward/api"
	"wireward/packet"
	"wireward/ring"
)

// placesOf is the places of a net of hosts and routers, by device and port.
func placesOf(n api.Net) []api.Place {
	var l []api.Place
	for i, d := range n.Devices {
		for port := range map[int]int{api.KHost: 1, api.KRouter: 4}[d.Kind] {
			l = append(l, api.Place{Device: i, Port: port})
		}
	}
	return l
}

// next is where a packet that came in at a device comes in next, by the words of
// the chapters.
func next(n api.Net, device int, p api.Packet) (api.Place, bool) {
	d := n.Devices[device]
	lets := slices.IndexFunc(d.Rules, func(r api.Rule) bool {
		m := r.Match
		return m.Src>>p.Src&1 == 1 && m.Dst>>p.Dst&1 == 1 && m.Sport>>p.Sport&1 == 1 && m.Dport>>p.Dport&1 == 1
	})
	if lets < 0 || !d.Rules[lets].Permit {
		return api.Place{}, false
	}
	port := -1
	for bits := range 5 {
		for _, r := range d.Routes {
			if r.Bits == bits && p.Dst/(16>>bits) == r.Value/(16>>bits) {
				port = r.Port
			}
		}
	}
	for _, l := range n.Links {
		switch (api.Place{Device: device, Port: port}) {
		case api.Place{Device: l.A, Port: l.P}:
			return api.Place{Device: l.B, Port: l.Q}, true
		case api.Place{Device: l.B, Port: l.Q}:
			return api.Place{Device: l.A, Port: l.P}, true
		}
	}
	return api.Place{}, false
}

// walk is the places at which a packet comes in, and whether it goes on for
// longer than there are places.
func walk(n api.Net, at api.Place, p api.Packet) ([]api.Place, bool) {
	way, ok := []api.Place{at}, true
	for ok && len(way) <= len(placesOf(n)) {
		var to api.Place
		if to, ok = next(n, way[len(way)-1].Device, p); ok {
			way = append(way, to)
		}
	}
	var once []api.Place
	for _, at := range way {
		if slices.Contains(once, at) {
			break
		}
		once = append(once, at)
	}
	return once, ok
}

// model has, by device and port, for each code a 1, if its packet goes round.
type model [][]byte

// modelOf goes back from hop to hop: what goes on comes to where it goes on.
func modelOf(n api.Net) model {
	places := placesOf(n)
	m := make(model, len(places))
	for i := range m {
		m[i] = make([]byte, api.Packets)
	}
	for code := range api.Packets {
		p, _ := packet.Of(code)
		to := make([]int, len(places)) // -1 of those that don't go out
		for i, at := range places {
			to[i] = -1
			if next, ok := next(n, at.Device, p); ok {
				to[i] = slices.Index(places, next)
			}
		}
		for i := range places {
			at := i
			for hops := 0; at >= 0 && hops <= len(places); hops++ {
				at = to[at]
			}
			if at >= 0 {
				m[i][code] = 1
			}
		}
	}
	return m
}

func (m model) counts() []int {
	var l []int
	for _, table := range m {
		count := 0
		for _, is := range table {
			count += int(is)
		}
		l = append(l, count)
	}
	return l
}

// node is a function of the bits behind some first ones, as a table of them.
type node struct {
	depth int
	table string
}

// addNodes adds the nodes of the function of a table to nodes.
func addNodes(nodes map[node]bool, table string, depth int) {
	if len(table) == 1 || nodes[node{depth, table}] {
		return
	}
	half := len(table) / 2
	if table[:half] != table[half:] {
		nodes[node{depth, table}] = true
		addNodes(nodes, table[half:], depth+1)
	}
	addNodes(nodes, table[:half], depth+1)
}

// needs is how many nodes the sets of a model have, in all, with the two that
// there always are.
func (m model) needs() int {
	nodes := map[node]bool{}
	for _, table := range m {
		addNodes(nodes, string(table), 0)
	}
	return 2 + len(nodes)
}

func anyMatch(r *rand.Rand) api.Match {
	set := func() uint16 {
		switch r.Intn(4) {
		case 0, 1:
			return 0xffff
		case 2:
			return uint16(r.Uint32() | r.Uint32())
		}
		return uint16(r.Uint32())
	}
	return api.Match{Src: set(), Dst: set(), Sport: uint8(set()), Dport: uint8(set())}
}

func anyRouter(r *rand.Rand) api.Device {
	d := api.Device{Kind: api.KRouter}
	for range r.Intn(3) {
		d.Rules = append(d.Rules, api.Rule{Permit: r.Intn(2) == 0, Match: anyMatch(r)})
	}
	if r.Intn(8) > 0 {
		d.Rules = append(d.Rules, api.Rule{Permit: true, Match: anyMatch(r)})
	}
	order := r.Perm(5)
	for _, bits := range order[:1+r.Intn(4)] {
		d.Routes = append(d.Routes, api.Route{Value: r.Intn(1<<bits) << (4 - bits), Bits: bits, Port: r.Intn(4)})
	}
	return d
}

// anyNet is a net of so many devices, most of whose ports are linked.
func anyNet(r *rand.Rand, devices int) api.Net {
	var n api.Net
	for i := range devices {
		d := anyRouter(r)
		if r.Intn(5) == 0 {
			d = api.Device{Kind: api.KHost, Addr: r.Intn(16)}
		}
		d.Name = string(rune('a' + i))
		n.Devices = append(n.Devices, d)
	}
	ends := placesOf(n)
	r.Shuffle(len(ends), func(i, j int) { ends[i], ends[j] = ends[j], ends[i] })
	for i := 0; i+1 < len(ends) && len(n.Links) < api.MaxLinks; i += 2 {
		if a, b := ends[i], ends[i+1]; r.Intn(10) > 0 {
			n.Links = append(n.Links, api.Link{A: a.Device, P: a.Port, B: b.Device, Q: b.Port})
		}
	}
	return n
}

// P21: walks in nets of all kinds, by the words of the chapters.
func TestWalkOfAnyNet(t *testing.T) {
	rounds, long := 0, 0
	for seed := range int64(800) {
		r := rand.New(rand.NewSource(seed))
		n := anyNet(r, 1+r.Intn(api.MaxDevices))
		if e := ring.Check(n); e != api.OK {
			t.Fatal(n, e)
		}
		for _, at := range placesOf(n) {
			for range 12 {
				p, _ := packet.Of(r.Intn(api.Packets))
				want, goes := walk(n, at, p)
				got, round, e := ring.Walk(n, at, p)
				if e != api.OK || round != goes || !slices.Equal(got, want) {
					t.Fatal(n, at, p, got, round, e, "not", want, goes)
				}
				if round {
					rounds++
				}
				long = max(long, len(got))
			}
		}
	}
	if rounds < 2000 || long < 6 {
		t.Error("hardly anything goes round", rounds, long)
	}
}

// P22: how many packets go round in nets of all kinds; and that there is room
// just if their sets have it: with one node fewer they don't.
func TestAllOfAnyNet(t *testing.T) {
	rounds, great := 0, 0
	for seed := range int64(60) {
		r := rand.New(rand.NewSource(seed))
		n := anyNet(r, 1+r.Intn(api.MaxDevices))
		m := modelOf(n)
		want, least := m.counts(), m.needs()
		for _, most := range []int{least, api.MaxNodes} {
			if got, e := ring.All(n, most); e != api.OK || !slices.Equal(got, want) {
				t.Fatal(n, most, got, e, "not", want)
			}
		}
		if least > 2 {
			if got, e := ring.All(n, least-1); e != api.ErrFull || len(got) != 0 {
				t.Fatal(n, least-1, got, e)
			}
		}
		for _, count := range want {
			rounds += min(count, 1)
		}
		great = max(great, least)
	}
	if rounds < 200 || great < 100 {
		t.Error("hardly anything goes round", rounds, great)
	}
}
