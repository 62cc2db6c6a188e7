package history_test

import (
	"math/rand"
	"testing"

	"wireward/api"
	"wireward/match"
	"wireward/packet"
)

// few are the addresses of the nets that are tried, so that packets meet.
var few = []int{0, 1, 5, 9}

func anyMatch(r *rand.Rand) api.Match {
	set := func() uint16 {
		if r.Intn(3) == 0 {
			return 0xffff
		}
		return uint16(r.Uint32())
	}
	return api.Match{Src: set(), Dst: set(), Sport: uint8(set()), Dport: uint8(set())}
}

func anyDevice(r *rand.Rand, kind int) api.Device {
	d := api.Device{Kind: kind}
	order := r.Perm(len(few))
	switch kind {
	case api.KHost:
		d.Addr = few[order[0]]
	case api.KNat:
		d.Addr, d.Pool = few[order[0]], uint8(1+r.Intn(255))
		if r.Intn(2) == 0 {
			d.Pool = 1 << r.Intn(8)
		}
	case api.KBalancer:
		d.Addr = few[order[0]]
		for _, k := range order[1 : 2+r.Intn(3)] {
			d.Backs = append(d.Backs, few[k])
		}
	case api.KRouter, api.KFire:
		for range r.Intn(3) {
			d.Rules = append(d.Rules, api.Rule{Permit: r.Intn(2) == 0, Match: anyMatch(r)})
		}
		d.Rules = append(d.Rules, api.Rule{Permit: true, Match: match.All()})
	}
	if kind == api.KRouter {
		for bits := range 1 + r.Intn(5) {
			value := few[order[0]] >> (4 - bits) << (4 - bits)
			d.Routes = append(d.Routes, api.Route{Value: value, Bits: bits, Port: r.Intn(4)})
		}
	}
	return d
}

// anyNet is a net of so many devices, most of whose ports are linked, hosts to
// other devices as long as there are some.
func anyNet(r *rand.Rand, devices int) api.Net {
	var n api.Net
	var hosts, others []api.Place
	for i := range devices {
		kind := []int{1, 2, 2, 3, 3, 4, 4, 5, 5}[r.Intn(9)]
		if i < 3 && r.Intn(3) > 0 {
			kind = api.KHost
		}
		d := anyDevice(r, kind)
		d.Name = string(rune('a' + i))
		n.Devices = append(n.Devices, d)
		for port := range portsOf[d.Kind] {
			if at := (api.Place{Device: i, Port: port}); d.Kind == api.KHost {
				hosts = append(hosts, at)
			} else {
				others = append(others, at)
			}
		}
	}
	r.Shuffle(len(others), func(i, j int) { others[i], others[j] = others[j], others[i] })
	// A host and another device in turn, then the rest of either.
	var ends []api.Place
	for i := range max(len(hosts), len(others)) {
		ends = append(ends, hosts[min(i, len(hosts)):min(i+1, len(hosts))]...)
		ends = append(ends, others[min(i, len(others)):min(i+1, len(others))]...)
	}
	for i := 0; i+1 < len(ends); i += 2 {
		if a, b := ends[i], ends[i+1]; r.Intn(12) > 0 && len(n.Links) < api.MaxLinks {
			n.Links = append(n.Links, api.Link{A: a.Device, P: a.Port, B: b.Device, Q: b.Port})
		}
	}
	return n
}

// P18: some of what comes to each place of nets of all kinds.
func TestAnyNet(t *testing.T) {
	histories, forgot, long := 0, 0, 0
	for seed := range int64(1500) {
		pick := rand.New(rand.NewSource(seed))
		n := anyNet(pick, 1+pick.Intn(api.MaxDevices))
		r := reachOf(t, n)
		for i, d := range n.Devices {
			for k := range 12 * portsOf[d.Kind] {
				at := api.Place{Device: i, Port: k % portsOf[d.Kind]}
				p, ok := r.First(at, anyMatch(pick))
				if k%2 == 0 {
					p, _ = packet.Of(pick.Intn(api.Packets))
					ok = r.Round(at, p) >= 0
				}
				if !ok {
					continue
				}
				l := good(t, n, r, at, p)
				histories++
				forgot += min(forgets(l), 1)
				long = max(long, len(l))
			}
		}
	}
	if histories < 10000 || forgot < 30 || long < 15 {
		t.Error("hardly anything was tried", histories, forgot, long)
	}
}
