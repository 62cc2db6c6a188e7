package verdict_test

import (
	"math/rand"
	"testing"

	"wireward/api"
	"wireward/match"
	"wireward/net"
	"wireward/packet"
	"wireward/verdict"
	"wireward/world"
)

// few are the addresses of the nets that are tried, so that packets meet.
var few = []int{0, 1, 5, 9}

func anyMatch(r *rand.Rand) api.Match {
	set := func() uint16 {
		switch r.Intn(6) {
		case 0, 1:
			return 0xffff
		case 2:
			return 1<<few[r.Intn(len(few))] | 1<<r.Intn(8)
		}
		return uint16(r.Uint32())
	}
	return api.Match{Src: set(), Dst: set(), Sport: uint8(set()), Dport: uint8(set())}
}

func anyDevice(r *rand.Rand, kind int) api.Device {
	d := api.Device{Kind: kind}
	order := r.Perm(len(few))
	switch kind {
	case api.KHost:
		d.Addr = few[order[0]]
	case api.KNat:
		d.Addr, d.Pool = few[order[0]], uint8(1+r.Intn(255))
	case api.KBalancer:
		d.Addr = few[order[0]]
		for _, k := range order[1 : 2+r.Intn(3)] {
			d.Backs = append(d.Backs, few[k])
		}
	case api.KRouter, api.KFire:
		for range r.Intn(3) {
			d.Rules = append(d.Rules, api.Rule{Permit: r.Intn(2) == 0, Match: anyMatch(r)})
		}
		d.Rules = append(d.Rules, api.Rule{Permit: true, Match: match.All()})
	}
	if kind == api.KRouter {
		for bits := range 1 + r.Intn(5) {
			value := few[order[0]] >> (4 - bits) << (4 - bits)
			d.Routes = append(d.Routes, api.Route{Value: value, Bits: bits, Port: r.Intn(4)})
		}
	}
	return d
}

// anyNet is a net of so many devices, of whose ports more or fewer are linked,
// so that it often has several parts.
func anyNet(r *rand.Rand, devices int) api.Net {
	var n api.Net
	var ends []api.Place
	for i := range devices {
		kind := []int{1, 1, 1, 2, 3, 4, 5}[r.Intn(7)]
		d := anyDevice(r, kind)
		d.Name = string(rune('a' + i))
		n.Devices = append(n.Devices, d)
		for port := range min(net.Ports(kind), 3) {
			ends = append(ends, api.Place{Device: i, Port: port})
		}
	}
	r.Shuffle(len(ends), func(i, j int) { ends[i], ends[j] = ends[j], ends[i] })
	leftOut := 1 + r.Intn(8)
	for i := 0; i+1 < len(ends); i += 2 {
		if a, b := ends[i], ends[i+1]; r.Intn(8) >= leftOut/2 && len(n.Links) < api.MaxLinks {
			n.Links = append(n.Links, api.Link{A: a.Device, P: a.Port, B: b.Device, Q: b.Port})
		}
	}
	return n
}

// just is the match of one packet.
func just(p api.Packet) api.Match {
	return api.Match{Src: 1 << p.Src, Dst: 1 << p.Dst, Sport: 1 << p.Sport, Dport: 1 << p.Dport}
}

// anyEvent is an event that may well be done in a world.
func anyEvent(r *rand.Rand, n api.Net, w *world.World) api.Event {
	seen := w.Seen()
	device := r.Intn(len(n.Devices))
	switch k := r.Intn(10); {
	case k < 3 || len(seen) == 0:
		p := api.Packet{Src: n.Devices[device].Addr, Dst: few[r.Intn(len(few))], Sport: r.Intn(8), Dport: r.Intn(8)}
		return api.Event{Kind: api.EInject, Device: device, Packet: p}
	case k < 4:
		return api.Event{Kind: api.EExpire, Device: device, Packet: seen[r.Intn(len(seen))].Packet, Choice: r.Intn(8)}
	case k < 6:
		// What came may be answered.
		p := packet.Flip(seen[r.Intn(len(seen))].Packet)
		return api.Event{Kind: api.EInject, Device: device, Packet: p}
	}
	x := seen[r.Intn(len(seen))]
	return api.Event{Kind: api.EHop, Device: x.Place.Device, Port: x.Place.Port, Packet: x.Packet, Choice: r.Intn(8)}
}

// P19: isolated is isolated: what came to a host in a history of the whole net
// is told as reached; and no history brought what isn't.
func TestNothingComesUntold(t *testing.T) {
	came, isolated := 0, 0
	for seed := range int64(300) {
		pick := rand.New(rand.NewSource(seed))
		n := anyNet(pick, 2+pick.Intn(api.MaxDevices-1))
		w, e := world.New(n)
		if e != api.OK {
			t.Fatal(n, e)
		}
		for range 300 {
			w.Do(anyEvent(pick, n, w))
		}
		for i, d := range n.Devices {
			if d.Kind != api.KHost {
				continue
			}
			for range 4 {
				if m := anyMatch(pick); !asked(t, n, d.Name, m).Reached {
					isolated++
					for _, x := range w.Seen() {
						if x.Place == (api.Place{Device: i}) && match.In(m, x.Packet) {
							t.Fatal(n, d.Name, m, x.Packet, "came")
						}
					}
				}
			}
		}
		for _, x := range w.Seen() {
			if d := n.Devices[x.Place.Device]; d.Kind == api.KHost && pick.Intn(3) == 0 {
				came++
				if v := asked(t, n, d.Name, just(x.Packet)); !v.Reached || v.Packet != x.Packet {
					t.Fatal(n, d.Name, x.Packet, v)
				}
			}
		}
	}
	if came < 500 || isolated < 500 {
		t.Error("hardly anything was asked", came, isolated)
	}
}

// P19: reached is reached: some of what can come to the hosts of nets of all
// kinds comes by the history that is told, in the whole net.
func TestAskOfAnyNet(t *testing.T) {
	reached, moved, long := 0, 0, 0
	for seed := range int64(700) {
		pick := rand.New(rand.NewSource(1000 + seed))
		n := anyNet(pick, 1+pick.Intn(api.MaxDevices))
		for i, d := range n.Devices {
			for range 6 {
				if d.Kind != api.KHost {
					continue
				}
				v := asked(t, n, d.Name, anyMatch(pick))
				if !v.Reached {
					continue
				}
				reached++
				long = max(long, len(v.History))
				if part, _ := verdict.Slice(n, d.Name); i >= len(part.Devices) || part.Devices[i].Name != d.Name {
					moved++
				}
			}
		}
	}
	if reached < 1000 || moved < 100 || long < 5 {
		t.Error("hardly anything was asked", reached, moved, long)
	}
}
