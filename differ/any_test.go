package differ_test

import (
	"math/rand"
	"slices"
	"testing"

	"wireward/api"
	"wireward/differ"
	"wireward/match"
	"wireward/net"
	"wireward/packet"
	"wireward/reach"
	"wireward/verdict"
	"wireward/world"
)

// few are the addresses of the nets that are tried, so that packets meet.
var few = []int{0, 1, 5, 9}

func anyDevice(r *rand.Rand, kind int) api.Device {
	d := api.Device{Kind: kind}
	order := r.Perm(len(few))
	switch kind {
	case api.KHost:
		d.Addr = few[order[0]]
	case api.KNat:
		d.Addr, d.Pool = few[order[0]], uint8(1+r.Intn(255))
	case api.KBalancer:
		d.Addr = few[order[0]]
		for _, k := range order[1 : 2+r.Intn(3)] {
			d.Backs = append(d.Backs, few[k])
		}
	case api.KRouter, api.KFire:
		d.Rules = append(anyRules(r, r.Intn(3)), api.Rule{Permit: true, Match: match.All()})
	}
	if kind == api.KRouter {
		for bits := range 1 + r.Intn(5) {
			value := few[order[0]] >> (4 - bits) << (4 - bits)
			d.Routes = append(d.Routes, api.Route{Value: value, Bits: bits, Port: r.Intn(3)})
		}
	}
	return d
}

// anyNet is a net of so many devices, most of whose ports are linked.
func anyNet(r *rand.Rand, devices int) api.Net {
	var n api.Net
	var ends []api.Place
	for i := range devices {
		kind := []int{1, 1, 1, 2, 3, 4, 5}[r.Intn(7)]
		d := anyDevice(r, kind)
		d.Name = string(rune('a' + i))
		n.Devices = append(n.Devices, d)
		for port := range min(net.Ports(kind), 3) {
			ends = append(ends, api.Place{Device: i, Port: port})
		}
	}
	r.Shuffle(len(ends), func(i, j int) { ends[i], ends[j] = ends[j], ends[i] })
	for i := 0; i+1 < len(ends); i += 2 {
		if a, b := ends[i], ends[i+1]; r.Intn(8) > 0 && len(n.Links) < api.MaxLinks {
			n.Links = append(n.Links, api.Link{A: a.Device, P: a.Port, B: b.Device, Q: b.Port})
		}
	}
	return n
}

// nearNet is a net with the same hosts that differs a little from another, and
// whose devices stand in another order.
func nearNet(r *rand.Rand, n api.Net) api.Net {
	n = net.Copy(n)
	for range r.Intn(5) {
		switch d := &n.Devices[r.Intn(len(n.Devices))]; d.Kind {
		case api.KHost:
			if i := r.Intn(20); i < len(n.Links) {
				n.Links = slices.Delete(n.Links, i, i+1)
			} else {
				d.Addr = few[r.Intn(len(few))]
			}
		case api.KRouter, api.KFire:
			d.Rules = near(r, d.Rules)
			if r.Intn(3) == 0 && d.Kind == api.KRouter {
				d.Routes[0].Port = r.Intn(3)
			}
		default:
			name := d.Name
			*d = anyDevice(r, d.Kind)
			d.Name = name
		}
	}
	order := r.Perm(len(n.Devices))
	other := api.Net{Devices: make([]api.Device, len(order))}
	for i, j := range order {
		other.Devices[j] = n.Devices[i]
	}
	for _, l := range n.Links {
		other.Links = append(other.Links, api.Link{A: order[l.B], P: l.Q, B: order[l.A], Q: l.P})
	}
	return other
}

// comes is, code by code, a 1 for each packet that can come to a host, as the
// whole net has it.
func comes(t *testing.T, n api.Net, host string) []byte {
	t.Helper()
	r, e := reach.New(n, api.MaxNodes)
	if e != api.OK {
		t.Fatal(n, e)
	}
	table, at := make([]byte, api.Packets), placeOf(n, host)
	for code := range table {
		if p, _ := packet.Of(code); r.Round(at, p) >= 0 {
			table[code] = 1
		}
	}
	return table
}

// P23: nets of all kinds, packet by packet; and that what is told comes in the
// one net by a history, and in the other one not at all.
func TestAnyNets(t *testing.T) {
	told, elsewhere := map[int]int{}, 0
	for seed := range int64(1200) {
		r := rand.New(rand.NewSource(seed))
		a := anyNet(r, 2+r.Intn(api.MaxDevices-1))
		b := nearNet(r, a)
		if seed%8 == 0 {
			b = anyNet(r, len(a.Devices))
		}
		for _, d := range a.Devices {
			if d.Kind != api.KHost || b.Devices[placeOf(b, d.Name).Device].Kind != api.KHost {
				continue
			}
			want, which := apart(comes(t, a, d.Name), comes(t, b, d.Name))
			p, k, e := differ.At(a, b, d.Name, api.MaxNodes)
			if e != api.OK || p != want || k != which {
				t.Fatal(a, b, d.Name, p, k, e, "not", want, which)
			}
			told[k]++
			if placeOf(a, d.Name) != placeOf(b, d.Name) {
				elsewhere++
			}
			if k > 0 {
				comesInOne(t, []api.Net{a, b}[k-1], []api.Net{a, b}[2-k], d.Name, p)
			}
		}
	}
	if told[0] < 100 || told[1] < 100 || told[2] < 50 || elsewhere < 200 {
		t.Error("hardly tried", told, elsewhere)
	}
}

// comesInOne holds that a packet comes to a host in the one net, and in the
// other doesn't.
func comesInOne(t *testing.T, one, other api.Net, host string, p api.Packet) {
	t.Helper()
	just := api.Match{Src: 1 << p.Src, Dst: 1 << p.Dst, Sport: 1 << p.Sport, Dport: 1 << p.Dport}
	v, e := verdict.Ask(one, host, just, api.MaxNodes)
	if e != api.OK || !v.Reached {
		t.Fatal(one, host, p, v, e)
	}
	seen, _, e := world.Run(one, v.History)
	if e != api.OK || seen[len(seen)-1] != (api.Arrival{Place: placeOf(one, host), Packet: p}) {
		t.Fatal(one, host, p, v, e)
	}
	if !isolated(t, other, host, just) {
		t.Fatal(other, host, p)
	}
}
